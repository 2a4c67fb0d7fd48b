/- Plain facts: what Get finds in a form, and what was found is a form. What parsed returns. What tx.Parse returns, and what the reader is then. Plain: what is laid is parsed as it was, and what is parsed is laid as just those bytes. -/
import Derived.Test.YtpamepkcbhoiaaaZoa
import Derived.Test.YtpamepkcbhoiaaaZob
import Derived.Test.YtpamepkcbhoiaaaZoc
import Derived.Test.YtpamepkcbhoiaaaZod
import Derived.Test.YtpamepkcbhoiaaaZoe
import Derived.Outline
namespace Go.Proofs.Ytpamepkcbhoiaaa
open Go.RowKit
set_option linter.unusedVariables false
set_option linter.unusedSimpArgs false
set_option maxRecDepth 100000
theorem lev_les (n : Nat) : ∀ k, lev (les n k) = n % 2 ^ (8 * k)
  | 0 => by simp [les, lev, Nat.mod_one]
  | k + 1 => by
    rw [les_succ, lev_app, lev_les n k, les_len]
    simp only [lev, BitVec.toNat_ofNat, Nat.mul_zero, Nat.add_zero]
    rw [show 8 * (k + 1) = 8 * k + 8 by omega, Nat.pow_add, Nat.mod_mul]
theorem fol_zero {b : Nat} (h : b < 253) : fol b = 0 := by
  unfold fol
  rw [if_neg (by omega), if_neg (by omega), if_neg (by omega)]
theorem wid_big {n : Nat} (h : ¬ n < 253) (h64 : n < 18446744073709551616) : n < 2 ^ (8 * wid n) := by
  unfold wid
  rw [if_neg h]
  split
  · omega
  · split
    · omega
    · omega
theorem lev_wid {n : Nat} (h : ¬ n < 253) (h64 : n < 18446744073709551616) : lev (les n (wid n)) = n := by
  rw [lev_les, Nat.mod_eq_of_lt (wid_big h h64)]
theorem form_pre {a b : Nat} (ha : a < 18446744073709551616) (hb : b < 18446744073709551616) (X Y : List (BitVec 8)) (h : form a ++ X = form b ++ Y) : a = b ∧ X = Y := by
  unfold form at h
  rw [List.cons_append, List.cons_append] at h
  injection h with h1 h2
  have e1 : fst a = fst b := by
    have := congrArg BitVec.toNat h1
    rw [BitVec.toNat_ofNat, BitVec.toNat_ofNat, Nat.mod_eq_of_lt (fst_lt a), Nat.mod_eq_of_lt (fst_lt b)] at this
    exact this
  have e2 : wid a = wid b := by rw [← fol_fst, ← fol_fst, e1]
  have e3 := List.append_inj h2 (by rw [les_len, les_len, e2])
  refine ⟨?_, e3.2⟩
  by_cases h3 : a < 253
  · have h4 : fst a = a := by simp [fst, h3]
    by_cases h5 : b < 253
    · have h6 : fst b = b := by simp [fst, h5]
      omega
    · have h7 : wid a = 0 := by simp [wid, h3]
      have h8 := wid_big h5 hb
      rw [← e2, h7] at h8
      omega
  · by_cases h5 : b < 253
    · have h7 : wid b = 0 := by simp [wid, h5]
      have h8 := wid_big h3 ha
      rw [e2, h7] at h8
      omega
    · have h9 := lev_wid h3 ha
      have h10 := lev_wid h5 hb
      rw [e3.1] at h9
      omega
theorem num1_cons (c : BitVec 8) (r : List (BitVec 8)) : numV (some (c :: r)) 1 = c.toNat ∧ numS (some (c :: r)) 1 = some r := by
  have hb : hasB (some (c :: r)) 1 = true := by simp [hasB]; omega
  have hw : isW 1 = true := rfl
  obtain ⟨h1, h2, _⟩ := cut_yes hb
  refine ⟨?_, ?_⟩
  · unfold numV; rw [if_pos hw, h1]; simp [lev]
  · unfold numS; rw [if_pos hw, h2]; simp
theorem num1_nil : numV (some []) 1 = 0 ∧ numS (some []) 1 = none := by
  constructor <;> decide
theorem numW_yes {W : Nat} (hW : isW W = true) {r : List (BitVec 8)} (h : W ≤ r.length) : numV (some r) W = lev (r.take W) ∧ numS (some r) W = some (r.drop W) := by
  have hb : hasB (some r) W = true := by simp [hasB]; omega
  obtain ⟨h1, h2, _⟩ := cut_yes hb
  refine ⟨?_, ?_⟩
  · unfold numV; rw [if_pos hW, h1]; simp
  · unfold numS; rw [if_pos hW, h2]; simp
theorem numW_no {W : Nat} {r : List (BitVec 8)} (h : r.length < W) : numS (some r) W = none := by
  have hb : hasB (some r) W = false := by simp [hasB]; omega
  unfold numS
  split
  · exact (cut_no hb).2
  · rfl
theorem fol_W {b : Nat} (h : fol b ≠ 0) : isW (fol b) = true := by
  unfold fol at h ⊢
  split
  · rfl
  · rename_i h1
    rw [if_neg h1] at h
    split
    · rfl
    · rename_i h2
      rw [if_neg h2] at h
      split
      · rfl
      · rename_i h3
        rw [if_neg h3] at h; exact absurd rfl h
theorem les_lev : ∀ (L : List (BitVec 8)), les (lev L) L.length = L := by
  intro L
  apply List.ext_getElem
  · rw [les_len]
  · intro i h1 h2
    have key : ∀ (L : List (BitVec 8)) (i : Nat) (h : i < L.length), BitVec.ofNat 8 (lev L / 2 ^ (8 * i)) = L[i] := by
      intro L
      induction L with
      | nil => intro i h; simp at h
      | cons x r ih =>
        intro i h
        have hx := x.isLt
        cases i with
        | zero =>
          apply BitVec.eq_of_toNat_eq
          simp [lev]
          omega
        | succ i =>
          rw [show 8 * (i + 1) = 8 + 8 * i by omega, Nat.pow_add, ← Nat.div_div_eq_div_mul, lev, show (x.toNat + 256 * lev r) / 2 ^ 8 = lev r by omega]
          simpa using ih i (by simpa using h)
    have := key L i h2
    simpa [les] using this
theorem fst_lo {n : Nat} (h : n < 253) : fst n = n := by simp [fst, h]
theorem lo_of_fol {b : Nat} (h : fol b = 0) (h2 : b < 256) : b < 253 := by
  rcases Nat.lt_or_ge b 253 with h1 | h1
  · exact h1
  · exfalso
    have : b = 253 ∨ b = 254 ∨ b = 255 := by omega
    rcases this with rfl | rfl | rfl <;> exact absurd h (by decide)
/-- What Get finds is a form, and what it leaves lies behind it. -/
theorem get_form {X : List (BitVec 8)} {most : Nat} (h : gE (some X) most = 0) : ∃ Y, X = form (gN (some X)) ++ Y ∧ gS (some X) = some Y ∧ gN (some X) < 18446744073709551616 := by
  have hg : ¬ ((gS (some X)).isNone = true ∨ numV (some X) 1 ≠ fst (gN (some X))) := by
    intro hh
    unfold gE at h
    rw [if_pos hh] at h
    exact absurd h (by decide)
  have hg1 : ¬ (gS (some X)).isNone = true := fun hh => hg (.inl hh)
  have hg2 : numV (some X) 1 = fst (gN (some X)) := Classical.byContradiction fun hh => hg (.inr hh)
  cases X with
  | nil =>
    exfalso
    apply hg1
    unfold gS
    rw [num1_nil.1, if_pos (show fol 0 = 0 from rfl), num1_nil.2]
    rfl
  | cons c r =>
    obtain ⟨e1, e2⟩ := num1_cons c r
    have hc := c.isLt
    by_cases hw : fol c.toNat = 0
    · have eN : gN (some (c :: r)) = c.toNat := by unfold gN; rw [e1, if_pos hw]
      have eS : gS (some (c :: r)) = some r := by unfold gS; rw [e1, if_pos hw, e2]
      refine ⟨r, ?_, eS, by rw [eN]; omega⟩
      have hlo := lo_of_fol hw hc
      rw [eN]
      unfold form
      rw [fst_lo hlo, show wid c.toNat = 0 by simp [wid, hlo]]
      simp [les]
    · have eN : gN (some (c :: r)) = numV (some r) (fol c.toNat) := by unfold gN; rw [e1, if_neg hw, e2]
      have eS : gS (some (c :: r)) = numS (some r) (fol c.toNat) := by unfold gS; rw [e1, if_neg hw, e2]
      rcases Nat.lt_or_ge r.length (fol c.toNat) with hl | hl
      · exfalso; apply hg1; rw [eS, numW_no hl]; rfl
      · obtain ⟨f1, f2⟩ := numW_yes (fol_W hw) hl
        rw [e1, eN, f1] at hg2
        refine ⟨r.drop (fol c.toNat), ?_, by rw [eS, f2], ?_⟩
        · rw [eN, f1]
          unfold form
          rw [← fol_fst, ← hg2]
          have := les_lev (r.take (fol c.toNat))
          rw [List.length_take, Nat.min_eq_left hl] at this
          rw [this]
          simp
        · rw [eN, f1]
          have h1 := lev_lt (r.take (fol c.toNat))
          have h2 : (r.take (fol c.toNat)).length ≤ 8 := by
            have := isW_pos (fol_W hw)
            rw [List.length_take]; omega
          have : 2 ^ (8 * (r.take (fol c.toNat)).length) ≤ 2 ^ 64 := Nat.pow_le_pow_right (by omega) (by omega)
          omega
/-- Get of a form tells its number, and leaves what lies behind. -/
theorem get_of_form (n : Nat) (hn : n < 18446744073709551616) (Y : List (BitVec 8)) : gN (some (form n ++ Y)) = n ∧ gS (some (form n ++ Y)) = some Y ∧ ∀ most, gE (some (form n ++ Y)) most = if most < n then 3 else 0 := by
  have hc : form n ++ Y = BitVec.ofNat 8 (fst n) :: (les n (wid n) ++ Y) := rfl
  obtain ⟨e1, e2⟩ := num1_cons (BitVec.ofNat 8 (fst n)) (les n (wid n) ++ Y)
  rw [← hc] at e1 e2
  have e3 : (BitVec.ofNat 8 (fst n)).toNat = fst n := by
    rw [BitVec.toNat_ofNat]; have := fst_lt n; omega
  rw [e3] at e1
  have key : gN (some (form n ++ Y)) = n ∧ gS (some (form n ++ Y)) = some Y := by
    by_cases hw : wid n = 0
    · have hlo : n < 253 := by
        rcases Nat.lt_or_ge n 253 with h | h
        · exact h
        · have := wid_big (Nat.not_lt.2 h) hn
          rw [hw] at this; omega
      have hf : fol (fst n) = 0 := by rw [fol_fst, hw]
      refine ⟨?_, ?_⟩
      · unfold gN; rw [e1, if_pos hf, fst_lo hlo]
      · unfold gS; rw [e1, if_pos hf, e2, hw]; simp [les]
    · have hf : fol (fst n) ≠ 0 := by rw [fol_fst]; exact hw
      have hW := fol_W hf
      rw [fol_fst] at hW
      obtain ⟨f1, f2⟩ := numW_yes (W := wid n) hW (r := les n (wid n) ++ Y) (by rw [List.length_append, les_len]; omega)
      have hnl : ¬ n < 253 := fun h => hw (by simp [wid, h])
      refine ⟨?_, ?_⟩
      · unfold gN
        rw [e1, if_neg hf, e2, fol_fst, f1, List.take_append_of_le_length (by rw [les_len]; exact Nat.le_refl _), List.take_of_length_le (by rw [les_len]; exact Nat.le_refl _), lev_wid hnl hn]
      · unfold gS
        rw [e1, if_neg hf, e2, fol_fst, f2, List.drop_append_of_le_length (by rw [les_len]; exact Nat.le_refl _), List.drop_eq_nil_of_le (by rw [les_len]; exact Nat.le_refl _)]
        rfl
  refine ⟨key.1, key.2, fun most => ?_⟩
  unfold gE
  rw [key.1, key.2, e1, if_neg (by simp)]
/-- Of a form that is cut nothing is got, and the reader is torn. -/
theorem get_cut (n i : Nat) (hi : i < (form n).length) : gS (some ((form n).take i)) = none := by
  cases i with
  | zero =>
    rw [List.take_zero]
    unfold gS
    rw [num1_nil.1, if_pos (show fol 0 = 0 from rfl), num1_nil.2]
  | succ i =>
    rw [form_len] at hi
    have hc : (form n).take (i + 1) = BitVec.ofNat 8 (fst n) :: (les n (wid n)).take i := rfl
    obtain ⟨e1, e2⟩ := num1_cons (BitVec.ofNat 8 (fst n)) ((les n (wid n)).take i)
    rw [← hc] at e1 e2
    have e3 : (BitVec.ofNat 8 (fst n)).toNat = fst n := by
      rw [BitVec.toNat_ofNat]; have := fst_lt n; omega
    rw [e3] at e1
    unfold gS
    rw [e1, fol_fst, if_neg (by omega), e2]
    exact numW_no (by rw [List.length_take, les_len]; omega)
theorem gE_cut {s : Option (List (BitVec 8))} (h : gS s = none) (most : Nat) : gE s most = 4 := by
  unfold gE
  rw [h, if_pos (Or.inl (show (none : Option (List (BitVec 8))).isNone = true from rfl))]
open Go.RowKit
set_option linter.unusedVariables false
set_option linter.unusedSimpArgs false
set_option maxRecDepth 100000
theorem rIns_short {s : Option (List (BitVec 8))} {k : Nat} (h : Short s k) : Short (rIns s).2.2 k := by
  have key : ∀ (n : Nat) (s : Option (List (BitVec 8))), Short s k → Short (rN n s).2.2 k := by
    intro n
    induction n with
    | zero => exact fun s h => h
    | succ n ih =>
      intro s h
      by_cases h0 : rInE s = 0
      · simp only [rN, h0, if_true]; exact ih _ (rInS_short h)
      · simp only [rN, h0, if_false]; exact rInS_short h
  unfold rIns
  split
  · exact key _ _ (gS_short h)
  · exact gS_short h
theorem rIns_len (s : Option (List (BitVec 8))) : (rIns s).2.1.length ≤ 16 := by
  have key : ∀ (n : Nat) (s : Option (List (BitVec 8))), (rN n s).2.1.length ≤ n := by
    intro n
    induction n with
    | zero => exact fun s => Nat.le_refl _
    | succ n ih =>
      intro s
      by_cases h0 : rInE s = 0
      · simp only [rN, h0, if_true, List.length_cons]; exact Nat.succ_le_succ (ih _)
      · simp only [rN, h0, if_false]; exact Nat.zero_le _
  unfold rIns
  split
  · rename_i h; exact Nat.le_trans (key _ _) (pE0 h)
  · exact Nat.zero_le _
theorem rOuts_short {s : Option (List (BitVec 8))} {k : Nat} (h : Short s k) : Short (rOuts s).2.2 k := by
  have key : ∀ (n : Nat) (s : Option (List (BitVec 8))), Short s k → Short (rO n s).2.2 k := by
    intro n
    induction n with
    | zero => exact fun s h => h
    | succ n ih =>
      intro s h
      by_cases h0 : tE (numS s 8) 128 = 0
      · simp only [rO, h0, if_true]; exact ih _ (tS_short (numS_short h _) _)
      · simp only [rO, h0, if_false]; exact tS_short (numS_short h _) _
  unfold rOuts
  split
  · exact key _ _ (gS_short h)
  · exact gS_short h
theorem rOuts_len (s : Option (List (BitVec 8))) : (rOuts s).2.1.length ≤ 16 := by
  have key : ∀ (n : Nat) (s : Option (List (BitVec 8))), (rO n s).2.1.length ≤ n := by
    intro n
    induction n with
    | zero => exact fun s => Nat.le_refl _
    | succ n ih =>
      intro s
      by_cases h0 : tE (numS s 8) 128 = 0
      · simp only [rO, h0, if_true, List.length_cons]; exact Nat.succ_le_succ (ih _)
      · simp only [rO, h0, if_false]; exact Nat.zero_le _
  unfold rOuts
  split
  · rename_i h; exact Nat.le_trans (key _ _) (pE0 h)
  · exact Nat.zero_le _
/-- Within parsed: the reader, the result's block, the transaction's block. -/
structure PS (w W : World) (B : Nat) (p : Option Nat) (rv tb : Nat) (V : List Value) (s : Option (List (BitVec 8))) : Prop where
  rd : IsR W B p s
  gr : w.grownBy W p
  rvb : Blk W rv 60 [.int .u32 0, .slice none 0 0, .slice none 0 0, .int .u32 0]
  tbb : Blk W tb 60 V
  ne : rv ≠ tb
  rn : w.heap.size ≤ rv
  tn : w.heap.size ≤ tb
  hB : B ≤ W.heap.size
theorem PS.call {w W W' : World} {B rv tb : Nat} {p : Option Nat} {V : List Value} {s s' : Option (List (BitVec 8))} (h : PS w W B p rv tb V s) (hi : IsR W' B p s') (hg : W.grownBy W' p) : PS w W' B p rv tb V s' :=
  ⟨hi, grown_trans h.gr hg, h.rvb.grown hg (h.rd.ne h.rvb (by decide)), h.tbb.grown hg (h.rd.ne h.tbb (by decide)), h.ne, h.rn, h.tn, Nat.le_trans h.hB hg.size⟩
theorem PS.same {w W W' : World} {B rv tb : Nat} {p : Option Nat} {V : List Value} {s : Option (List (BitVec 8))} (h : PS w W B p rv tb V s) (hb : Below W.heap.size W W') : PS w W' B p rv tb V s :=
  h.call (h.rd.below hb h.hB) ⟨hb.os, hb.tape, hb.output, hb.size, fun k hk _ => hb.block k hk⟩
theorem PS.set {w W : World} {B rv tb : Nat} {p : Option Nat} {V : List Value} {s : Option (List (BitVec 8))} (h : PS w W B p rv tb V s) (o : Nat) (v : Value) : PS w (W.setCell ⟨tb, o, none⟩ v) B p rv tb (V.set o v) s :=
  ⟨h.rd.store h.tbb (by decide) (by decide) _ _, Fr.grown h.gr (Fr.store _ _ _ _ _) h.tn, h.rvb.other (by exact h.ne) v, h.tbb.set _ _, h.ne, h.rn, h.tn, Nat.le_trans h.hB (Fr.store W p tb o v).size⟩
theorem PS.fr {w W W' : World} {B rv tb b : Nat} {p : Option Nat} {V us : List Value} {s s' : Option (List (BitVec 8))} (h : PS w W B p rv tb V s) (hi : IsR W' B p s') (hf : Fr W W' p (some b)) (hb : Blk W b 69 us) (hn : w.heap.size ≤ b) : PS w W' B p rv tb V s' :=
  ⟨hi, Fr.grown h.gr hf hn, h.rvb.fr hf (h.rd.ne h.rvb (by decide)) (fun e => by injection e with e; exact h.rvb.apart hb (by decide) e), h.tbb.fr hf (h.rd.ne h.tbb (by decide)) (fun e => by injection e with e; exact h.tbb.apart hb (by decide) e), h.ne, h.rn, h.tn, Nat.le_trans h.hB hf.size⟩
theorem info26 : (Try.prog.info? 60).map (·.size) = some 4 := by kernel_rfl
theorem PS.fin {w W W' : World} {B rv tb : Nat} {p : Option Nat} {V : List Value} {s : Option (List (BitVec 8))} {a b c d : Value} (h : PS w W B p rv tb V s) (e : (((W.setCell ⟨rv, 0, none⟩ a).setCell ⟨rv, 1, none⟩ b).setCell ⟨rv, 2, none⟩ c).setCell ⟨rv, 3, none⟩ d = W') :
    Blk W' rv 60 [a, b, c, d] ∧ IsR W' B p s ∧ w.grownBy W' p ∧ Fr W W' p (some rv) := by
  have e' : W.setCells rv 0 [a, b, c, d] = W' := e
  rw [← e']
  have hf := Fr.stores W p rv [a, b, c, d] 0 W (Fr.refl _ _ _)
  exact ⟨h.rvb.setCells [a, b, c, d] rfl, IsR.stores (by decide) (by decide) [a, b, c, d] 0 W _ h.rvb h.rd, Fr.grown h.gr hf h.rn, hf⟩
/-- The inputs xs lie in block ib, the outputs ys in block ob. -/
def Rd1 (W : World) (ib : Nat) (xs : List TIn) : Prop := ∃ vs, InsW W xs vs ∧ Blk W ib 69 vs
def Rd2 (W : World) (ob : Nat) (ys : List TOut) : Prop := ∃ us, OutsN W us ys ∧ Blk W ob 71 us
theorem Rd1.fr {W W' : World} {ib B b : Nat} {p : Option Nat} {s : Option (List (BitVec 8))} {T : TypeId} {us : List Value} {xs : List TIn} (h : Rd1 W ib xs) (hR : IsR W B p s) (hb : Blk W b T us) (hT : T ≠ 5) (hT2 : T ≠ 22) (hT3 : T ≠ 69) (hf : Fr W W' p (some b)) : Rd1 W' ib xs := by
  obtain ⟨vs, h1, h2⟩ := h
  exact ⟨vs, InsW.fr hR hb hT hT2 hf h1, h2.fr hf (hR.ne h2 (by decide)) (fun e => by injection e with e; exact h2.apart hb (fun e => hT3 e.symm) e)⟩
theorem Rd2.fr {W W' : World} {ob B b : Nat} {p : Option Nat} {s : Option (List (BitVec 8))} {T : TypeId} {us : List Value} {ys : List TOut} (h : Rd2 W ob ys) (hR : IsR W B p s) (hb : Blk W b T us) (hT : T ≠ 5) (hT3 : T ≠ 71) (hf : Fr W W' p (some b)) : Rd2 W' ob ys := by
  obtain ⟨vs, h1, h2⟩ := h
  exact ⟨vs, h1.fr hR hb hT hf, h2.fr hf (hR.ne h2 (by decide)) (fun e => by injection e with e; exact h2.apart hb (fun e => hT3 e.symm) e)⟩
theorem Rd1.tx {W : World} {ib ob k1 k2 v l : Nat} {xs : List TIn} {ys : List TOut} (h : Rd1 W ib xs) (h2 : Rd2 W ob ys) (hx : ∀ x ∈ xs, OkIn x ∧ x.wt.length ≤ 1000000) (hy : ∀ y ∈ ys, OkOut y) (e1 : xs.length = k1) (e2 : ys.length = k2) (l1 : k1 ≤ 16) (l2 : k2 ≤ 16) (hv : v < 4294967296) (hl : l < 4294967296) :
    TxOk W W.heap.size ⟨v, xs, ys, l⟩ (.slice (some ⟨ib, 0, none⟩) k1 k1) (.slice (some ⟨ob, 0, none⟩) k2 k2) := by
  obtain ⟨vs, a, b⟩ := h
  obtain ⟨us, c, d⟩ := h2
  exact ⟨a.is b hx e1 (by omega), c.os d hy e2 (by omega), hv, hl⟩
/-- A transaction of the program's own making. -/
def TxN (w : World) (t : TTx) (i o : Value) : Prop := ∃ ib ob, i = .slice (some ⟨ib, 0, none⟩) t.ins.length t.ins.length ∧ o = .slice (some ⟨ob, 0, none⟩) t.outs.length t.outs.length ∧ Rd1 w ib t.ins ∧ Rd2 w ob t.outs ∧ (∀ x ∈ t.ins, OkIn x ∧ x.wt.length ≤ 1000000) ∧ (∀ y ∈ t.outs, OkOut y) ∧ t.ins.length ≤ 16 ∧ t.outs.length ≤ 16 ∧ t.ver < 4294967296 ∧ t.lock < 4294967296
theorem TxN.ok {w : World} {t : TTx} {i o : Value} (h : TxN w t i o) : TxOk w w.heap.size t i o := by
  obtain ⟨ib, ob, rfl, rfl, a, b, c, d, e, f, g, k⟩ := h
  exact Rd1.tx a b c d rfl rfl e f g k
theorem TxN.fr {w w' : World} {t : TTx} {i o : Value} {B b : Nat} {p : Option Nat} {s : Option (List (BitVec 8))} {us : List Value} (h : TxN w t i o) (hR : IsR w B p s) (hb : Blk w b 60 us) (hf : Fr w w' p (some b)) : TxN w' t i o := by
  obtain ⟨ib, ob, e1, e2, a, b', r⟩ := h
  exact ⟨ib, ob, e1, e2, a.fr hR hb (by decide) (by decide) (by decide) hf, b'.fr hR hb (by decide) (by decide) hf, r⟩
def ParsedPost (r : Int × TTx × Option (List (BitVec 8))) (B : Nat) (p : Option Nat) (w : World) (e : Ending) (w' : World) : Prop :=
  ∃ V L A1 n1 c1 A2 n2 c2 c, e = .returned (.tuple #[.agg #[.int .u32 V, .slice A1 n1 c1, .slice A2 n2 c2, .int .u32 L], .int .i64 c]) ∧ r.1 = c ∧ IsR w' B p r.2.2 ∧ w.grownBy w' p ∧ (c = 0 → V = (r.2.1.ver : Int) ∧ L = (r.2.1.lock : Int) ∧ TxN w' r.2.1 (.slice A1 n1 c1) (.slice A2 n2 c2))
theorem rI_n : ∀ (n : Nat) (s : Option (List (BitVec 8))), (rI n s).2.1.length ≤ n
  | 0, s => Nat.le_refl _
  | n + 1, s => by
    by_cases h0 : tE s 128 = 0
    · simp only [rI, h0, if_true, List.length_cons]; exact Nat.succ_le_succ (rI_n n _)
    · simp only [rI, h0, if_false]; exact Nat.zero_le _
theorem rW_n (s : Option (List (BitVec 8))) : (rW s).2.1.length ≤ 8 := by
  unfold rW
  split
  · rename_i h; exact Nat.le_trans (rI_n _ _) (gE_ne s 8 h)
  · exact Nat.zero_le _
theorem rX_n : ∀ (n : Nat) (s : Option (List (BitVec 8))), ∀ L ∈ (rX n s).2.1, L.length ≤ 8
  | 0, s, L, hL => by simp [rX] at hL
  | n + 1, s, L, hL => by
    by_cases h0 : (rW s).1 = 0
    · simp only [rX, h0, if_true] at hL
      rcases List.mem_cons.1 hL with rfl | hL
      · exact rW_n s
      · exact rX_n n _ L hL
    · simp only [rX, h0, if_false] at hL
      cases hL
theorem rX_short {k : Nat} : ∀ (n : Nat) (s : Option (List (BitVec 8))), Short s k → Short (rX n s).2.2 k
  | 0, _, h => h
  | n + 1, s, h => by
    by_cases h0 : (rW s).1 = 0
    · simp only [rX, h0, if_true]; exact rX_short n _ (rW_short h)
    · simp only [rX, h0, if_false]; exact rW_short h
theorem wW_wt : ∀ (xs : List TIn) (Ls : List (List (List (BitVec 8)))) (k : Nat), (∀ L ∈ Ls, L.length ≤ k) → ∀ x ∈ wW xs Ls, x.wt.length ≤ k
  | [], _, _, _, x, hx => by simp [wW] at hx
  | _ :: _, [], _, _, x, hx => by simp [wW] at hx
  | y :: ys, L :: Ls, k, h, x, hx => by
    have hx : x ∈ (⟨y.tx, y.ix, y.sc, y.sq, L⟩ : TIn) :: wW ys Ls := hx
    rcases List.mem_cons.1 hx with rfl | hx
    · exact h L (by simp)
    · exact wW_wt ys Ls k (fun z hz => h z (by simp [hz])) x hx
theorem grown_below' {w w' : World} (p : Option Nat) (hb : Below w.heap.size w w') : w.grownBy w' p := ⟨hb.os, hb.tape, hb.output, hb.size, fun k hk _ => hb.block k hk⟩
set_option maxHeartbeats 4000000 in
theorem parsed_no (p : Option Nat) (s : Option (List (BitVec 8))) (B : Nat) (w : World) (h : IsR w B p s) (hB : B ≤ w.heap.size) (hl : Short s 100000000) (hm : rM (numS s 4) = false) :
    Calls Try.prog 61 #[ptr p] w (ParsedPost (rT1 (numV s 4) false (numS s 4)) B p w) := by
  obtain ⟨q, hP⟩ : ∃ q, Value.pointer q = ptr p := ⟨_, rfl⟩
  have hW : Below w.heap.size w (w.alloc (.cells #[.int .u32 0, .slice none 0 0, .slice none 0 0, .int .u32 0] 60)) := (Below.refl _ _).alloc (Nat.le_refl _) _
  have hA := h.below hW hB
  have hv := Blk.new w 60 #[.int .u32 0, .slice none 0 0, .slice none 0 0, .int .u32 0]
  have HV := Lib.hid hv
  have HB := Lib.hid hB
  have HW := Lib.hid hW
  have HNv := Lib.hid (hA.ne hv (by decide))
  obtain ⟨n4, hn4⟩ : ∃ n, n = numV s 4 := ⟨_, rfl⟩
  have h4 := numV_4 s
  have K1 := Lib.hid (num_any p s 4 B _ hA (Nat.le_trans hB hW.size))
  obtain ⟨s1, hs1⟩ : ∃ s', s' = numS s 4 := ⟨_, rfl⟩
  have hl1 : Short s1 100000000 := by rw [hs1]; exact numS_short hl _
  rw [← hn4] at K1 h4 ⊢
  rw [← hs1] at K1 hm ⊢
  have hw4 : IntKind.u32.wrap (n4 : Int) = (n4 : Int) := by rw [IntKind.wrap_u32]; omega
  have K2 : Hid (∀ wq, IsR wq B p s1 → B ≤ wq.heap.size → Calls Try.prog 71 #[.pointer q, .int .i64 2] wq (NewPost (takeL s1 2) s1 B p wq)) := fun wq hq hBq => by rw [hP]; exact peek_any p s1 2 B wq hq hBq hl1
  have hl2 : Short s1 100000000 := hl1
  obtain ⟨X, hX⟩ : ∃ X, X = takeL s1 2 := ⟨_, rfl⟩
  have hmk : ((strB X).toList == ([0, 1] : List UInt8)) = false := by rw [mark_beq, hX]; exact hm
  rw [← hX] at K2
  have K3 : Hid (∀ wq, IsR wq B p s1 → B ≤ wq.heap.size → Calls Try.prog 72 #[.pointer q] wq (InsOut (rIns s1) B p wq)) := fun wq hq hBq => by rw [hP]; exact parsedIns_any p s1 B wq hq hBq hl2
  have HI1 := Lib.hid (rIns_ok s1)
  have HL3 := Lib.hid (rIns_short hl2)
  have HN3 := Lib.hid (rIns_len s1)
  have ht1 : rT1 n4 false s1 = if (rIns s1).1 = 0 then rT2 n4 false (rIns s1).2.1 (rIns s1).2.2 else ((rIns s1).1, ⟨n4, [], [], 0⟩, (rIns s1).2.2) := rfl
  obtain ⟨rt, hrt⟩ : ∃ r, r = rT1 n4 false s1 := ⟨_, rfl⟩
  rw [← hrt] at ht1 ⊢
  obtain ⟨ri, hri⟩ : ∃ r, r = rIns s1 := ⟨_, rfl⟩
  rw [← hri] at K3 HI1 HL3 HN3 ht1
  have HRT := Lib.hid ht1
  have H4 := Lib.hid h4
  rw [← hP] at K1 ⊢
  have HP := Lib.hid hP
  have Hm := Lib.hid hmk
  clear h hB hl hP hA hv hW hn4 hs1 hl1 hl2 hm hX hri ht1 hrt hmk
  go_enter Try.func61, Try.ntmps61
  go_upto_region 2 with (go_at_call 32; (with_reducible refine K1.out.mono ?_); rintro e w1 ⟨rfl, hi, hg⟩; dsimp only)
  have hPS : PS w (w1.alloc (.cells #[.int .u32 (n4 : Int), .slice none 0 0, .slice none 0 0, .int .u32 0] 60)) B p w.heap.size w1.heap.size [.int .u32 (n4 : Int), .slice none 0 0, .slice none 0 0, .int .u32 0] s1 := by
    have hs1 : w.heap.size < w1.heap.size := Nat.lt_of_lt_of_le HV.out.lt hg.size
    have hbw : Below w1.heap.size w1 (w1.alloc (.cells #[.int .u32 (n4 : Int), .slice none 0 0, .slice none 0 0, .int .u32 0] 60)) := (Below.refl _ _).alloc (Nat.le_refl _) _
    have hB1 : B ≤ w1.heap.size := Nat.le_trans HB.out (by omega)
    exact ⟨hi.below hbw hB1, grown_trans (grown_trans (grown_below' p HW.out) hg) (grown_below' p hbw), (HV.out.grown hg HNv.out).alloc _, Blk.new w1 60 #[.int .u32 (n4 : Int), .slice none 0 0, .slice none 0 0, .int .u32 0], by omega, Nat.le_refl _, by omega, Nat.le_trans hB1 hbw.size⟩
  obtain ⟨tb, htb⟩ : ∃ n, n = w1.heap.size := ⟨_, rfl⟩
  generalize (w1.alloc (.cells #[.int .u32 (n4 : Int), .slice none 0 0, .slice none 0 0, .int .u32 0] 60)) = W1 at hPS ⊢
  rw [← htb] at hPS ⊢
  have HPS := Lib.hid hPS
  clear hPS K1 hi hg HV HNv htb HB HW
  have hmk := Hm.out
  go_upto_region 6 with (first
    | (go_at_call 71; go_loud ((with_reducible refine (K2.out _ HPS.out.rd HPS.out.hB).mono ?_); rintro e w2 ⟨v, rfl, ho, hi, hg⟩; obtain ⟨A, cap, rfl, hR, _⟩ := ho.rd; have hcv := conv_n (n := X.length) (c := cap) hR rfl; have HPS2 := Lib.hid (HPS.out.call hi hg); clear ho hi hg hR K2; dsimp only)))
  obtain ⟨HQ, hQe⟩ : ∃ h : Hid (PS w w2 B p w.heap.size tb [.int .u32 (n4 : Int), .slice none 0 0, .slice none 0 0, .int .u32 0] s1), h = HPS2 := ⟨_, rfl⟩
  clear hQe HPS2 hmk hcv HPS
  generalize w2 = W3 at HQ ⊢
  go_upto_region 7 with (go_at_call 72; (with_reducible refine (K3.out _ HQ.out.rd HQ.out.hB).mono ?_); rintro e w4 ⟨A1, k1, c1, ei, rfl, hr, hi, hg, hok⟩; have hq := HQ.out.call hi hg; have d0 := hq.tbb.cell (j := 1) rfl; have f0 := hq.tbb.free 1; have HQ4 := Lib.hid (hq.set 1 (.slice A1 k1 c1)); have HT4 := Lib.hid hq.tbb; have HS4 := Lib.hid (Nat.le_trans HQ.out.gr.size (Nat.le_refl W3.heap.size)); have Hr := Lib.hid hr; have Hok := Lib.hid hok; have HI4 := Lib.hid hi; have HG4 := Lib.hid hg; clear hr hi hg hok hq K3; dsimp only)
  have HZ : Hid (ri.1 = ei) := Hr
  obtain ⟨W4, hW4⟩ : ∃ W, W = w4.setCell ⟨tb, 1, none⟩ (.slice A1 k1 c1) := ⟨_, rfl⟩
  rw [← hW4] at HQ4 ⊢
  have HW4 := Lib.hid hW4
  clear hW4 d0 f0
  by_cases hc : ei = 0
  rotate_left
  · have hcb : (ei != 0) = true := by simpa using hc
    have cc0 := HQ4.out.tbb.cell (j := 0) rfl
    have cc1 := HQ4.out.tbb.cell (j := 1) rfl
    have cc2 := HQ4.out.tbb.cell (j := 2) rfl
    have cc3 := HQ4.out.tbb.cell (j := 3) rfl
    have d0 := HQ4.out.rvb.cell (j := 0) rfl
    have d1 := HQ4.out.rvb.cell (j := 1) rfl
    have d2 := HQ4.out.rvb.cell (j := 2) rfl
    have d3 := HQ4.out.rvb.cell (j := 3) rfl
    have f0 := HQ4.out.rvb.free 0
    have f1 := HQ4.out.rvb.free 1
    have f2 := HQ4.out.rvb.free 2
    have f3 := HQ4.out.rvb.free 3
    go_wp2_with fail
    generalize hW9 : (((W4.setCell ⟨w.heap.size, 0, none⟩ (.int .u32 (n4 : Int))).setCell ⟨w.heap.size, 1, none⟩ (.slice A1 k1 c1)).setCell ⟨w.heap.size, 2, none⟩ (.slice none 0 0)).setCell ⟨w.heap.size, 3, none⟩ (.int .u32 0) = W9
    obtain ⟨g1, g2, g3, g4⟩ := HQ4.out.fin hW9
    have hlv := run_loadVar_mid (P := Try.prog) W9 w.heap.size 0 60 _ _ g1.range Try.underlying60 rfl info26
    have ert := HRT.out
    rw [HZ.out, if_neg hc] at ert
    exact bodyPost_ret (v := .tuple #[.agg #[.int .u32 (n4 : Int), .slice A1 k1 c1, .slice none 0 0, .int .u32 0], .int .i64 ei]) (by simp [results, Try.results61, asAddr, hlv]) rfl ⟨_, _, _, _, _, _, _, _, _, rfl, by rw [ert], by rw [ert]; exact g2, g3, fun h => absurd h hc⟩
  subst hc
  obtain ⟨ib, vs, rfl, hn1, hcp, hIN, hbI, hib⟩ := Hok.out rfl
  subst c1
  have ht1 := HRT.out
  rw [HZ.out, if_pos rfl] at ht1
  have hR1 : Rd1 W4 ib ri.2.1 := by
    rw [HW4.out]
    exact Rd1.fr ⟨vs, hIN.w (fun x hx => (HI1.out x hx).2), hbI⟩ HI4.out HT4.out (by decide) (by decide) (by decide) (Fr.store _ _ _ _ _)
  have hib2 : w.heap.size ≤ ib := Nat.le_trans HS4.out hib
  clear hIN hbI hib HRT Hok HZ Hr HI4 HT4 HG4 HW4 HS4
  obtain ⟨xs, hxs⟩ : ∃ x, x = ri.2.1 := ⟨_, rfl⟩
  obtain ⟨s3, hs3⟩ : ∃ x, x = ri.2.2 := ⟨_, rfl⟩
  rw [← hxs] at HI1 HN3 hn1 ht1 hR1
  rw [← hs3] at HL3 HQ4 ht1
  clear hxs hs3
  have K5 : Hid (∀ wq, IsR wq B p s3 → B ≤ wq.heap.size → Calls Try.prog 73 #[.pointer q] wq (OutsOut (rOuts s3) B p wq)) := fun wq hq hBq => by rw [HP.out]; exact parsedOuts_any p s3 B wq hq hBq HL3.out
  have HO1 := Lib.hid (rOuts_ok s3)
  have HL5 := Lib.hid (rOuts_short HL3.out)
  have HN5 := Lib.hid (rOuts_len s3)
  have ht2 : rt = if (rOuts s3).1 = 0 then rT3 n4 false xs (rOuts s3).2.1 (rOuts s3).2.2 else ((rOuts s3).1, ⟨n4, xs, [], 0⟩, (rOuts s3).2.2) := ht1
  obtain ⟨ro, hro⟩ : ∃ r, r = rOuts s3 := ⟨_, rfl⟩
  rw [← hro] at K5 HO1 HL5 HN5 ht2
  have HRT := Lib.hid ht2
  have HR1 := Lib.hid hR1
  have HE1 := Lib.hid hn1
  have HIB := Lib.hid hib2
  have hcb : ((0 : Int) != 0) = false := by decide
  clear hro ht1 ht2 hR1 hn1 hib2 HL3
  go_upto_region 10 with (go_at_call 73; (with_reducible refine (K5.out _ HQ4.out.rd HQ4.out.hB).mono ?_); rintro e w5 ⟨A2, k2, c2, eo, rfl, hr, hi, hg, hok⟩; have hq := HQ4.out.call hi hg; have d0 := hq.tbb.cell (j := 2) rfl; have f0 := hq.tbb.free 2; have HQ5 := Lib.hid (hq.set 2 (.slice A2 k2 c2)); have HT5 := Lib.hid hq.tbb; have Hr := Lib.hid hr; have Hok := Lib.hid hok; have HI5 := Lib.hid hi; have HR5 := Lib.hid (Rd1.fr HR1.out HQ4.out.rd HQ4.out.tbb (by decide) (by decide) (by decide) (Fr.of_grown hg (some tb))); clear hr hi hg hok hq K5; dsimp only)
  have HZ : Hid (ro.1 = eo) := Hr
  obtain ⟨W5, hW5⟩ : ∃ W, W = w5.setCell ⟨tb, 2, none⟩ (.slice A2 k2 c2) := ⟨_, rfl⟩
  rw [← hW5] at HQ5 ⊢
  have HW5 := Lib.hid hW5
  clear hW5 d0 f0 hcb
  by_cases hc : eo = 0
  rotate_left
  · have hcb : (eo != 0) = true := by simpa using hc
    have cc0 := HQ5.out.tbb.cell (j := 0) rfl
    have cc1 := HQ5.out.tbb.cell (j := 1) rfl
    have cc2 := HQ5.out.tbb.cell (j := 2) rfl
    have cc3 := HQ5.out.tbb.cell (j := 3) rfl
    have d0 := HQ5.out.rvb.cell (j := 0) rfl
    have d1 := HQ5.out.rvb.cell (j := 1) rfl
    have d2 := HQ5.out.rvb.cell (j := 2) rfl
    have d3 := HQ5.out.rvb.cell (j := 3) rfl
    have f0 := HQ5.out.rvb.free 0
    have f1 := HQ5.out.rvb.free 1
    have f2 := HQ5.out.rvb.free 2
    have f3 := HQ5.out.rvb.free 3
    go_wp2_with fail
    generalize hW9 : (((W5.setCell ⟨w.heap.size, 0, none⟩ (.int .u32 (n4 : Int))).setCell ⟨w.heap.size, 1, none⟩ (.slice (some ⟨ib, 0, none⟩) k1 k1)).setCell ⟨w.heap.size, 2, none⟩ (.slice A2 k2 c2)).setCell ⟨w.heap.size, 3, none⟩ (.int .u32 0) = W9
    obtain ⟨g1, g2, g3, g4⟩ := HQ5.out.fin hW9
    have hlv := run_loadVar_mid (P := Try.prog) W9 w.heap.size 0 60 _ _ g1.range Try.underlying60 rfl info26
    have ert := HRT.out
    rw [HZ.out, if_neg hc] at ert
    exact bodyPost_ret (v := .tuple #[.agg #[.int .u32 (n4 : Int), .slice (some ⟨ib, 0, none⟩) k1 k1, .slice A2 k2 c2, .int .u32 0], .int .i64 eo]) (by simp [results, Try.results61, asAddr, hlv]) rfl ⟨_, _, _, _, _, _, _, _, _, rfl, by rw [ert], by rw [ert]; exact g2, g3, fun h => absurd h hc⟩
  subst hc
  obtain ⟨ob, us, rfl, hn2, hcp, hON, hbO, hob⟩ := Hok.out rfl
  subst c2
  have ht1 := HRT.out
  rw [HZ.out, if_pos rfl] at ht1
  have hR1 : Rd1 W5 ib xs := by
    rw [HW5.out]
    exact Rd1.fr HR5.out HI5.out HT5.out (by decide) (by decide) (by decide) (Fr.store _ _ _ _ _)
  have hR2 : Rd2 W5 ob ro.2.1 := by
    rw [HW5.out]
    exact Rd2.fr ⟨us, hON, hbO⟩ HI5.out HT5.out (by decide) (by decide) (Fr.store _ _ _ _ _)
  clear hON hbO hob HRT Hok HZ Hr HI5 HT5 HW5 HR5 HR1 HQ4
  obtain ⟨ys, hys⟩ : ∃ x, x = ro.2.1 := ⟨_, rfl⟩
  obtain ⟨s4, hs4⟩ : ∃ x, x = ro.2.2 := ⟨_, rfl⟩
  rw [← hys] at HO1 HN5 hn2 ht1 hR2
  rw [← hs4] at HL5 HQ5 ht1
  clear hys hs4
  have HR1 := Lib.hid hR1
  have HR2 := Lib.hid hR2
  have HE2 := Lib.hid hn2
  have HRT := Lib.hid ht1
  have hcb : ((0 : Int) != 0) = false := by decide
  have HE : Hid ([Value.int .u32 (n4 : Int), .slice (some ⟨ib, 0, none⟩) k1 k1, .slice (some ⟨ob, 0, none⟩) k2 k2, .int .u32 0] = (([Value.int .u32 (n4 : Int), .slice none 0 0, .slice none 0 0, .int .u32 0].set 1 (.slice (some ⟨ib, 0, none⟩) k1 k1)).set 2 (.slice (some ⟨ob, 0, none⟩) k2 k2))) := rfl
  rw [← HE.out] at HQ5
  clear HE hR1 hR2 hn2 ht1
  have KL : Hid (∀ wq, IsR wq B p s4 → B ≤ wq.heap.size → Calls Try.prog 32 #[.pointer q, .int .i64 4] wq (NumPost (numV s4 4) (numS s4 4) B p wq)) := fun wq hq hBq => by rw [HP.out]; exact num_any p s4 4 B wq hq hBq
  have h8 := numV_4 s4
  obtain ⟨n8, hn8⟩ : ∃ n, n = numV s4 4 := ⟨_, rfl⟩
  obtain ⟨s9, hs9⟩ : ∃ x, x = numS s4 4 := ⟨_, rfl⟩
  rw [← hn8] at KL h8
  rw [← hs9] at KL
  have HN8 := Lib.hid hn8
  have HS9 := Lib.hid hs9
  have H8 := Lib.hid h8
  have hw8 : IntKind.u32.wrap (n8 : Int) = (n8 : Int) := by rw [IntKind.wrap_u32]; omega
  clear hn8 hs9 h8
  go_upto_region 19 with (go_at_call 32; (with_reducible refine (KL.out _ HQ5.out.rd HQ5.out.hB).mono ?_); rintro e w8 ⟨rfl, hi, hg⟩; have hq := HQ5.out.call hi hg; have d0 := hq.tbb.cell (j := 3) rfl; have f0 := hq.tbb.free 3; have HQ8 := Lib.hid (hq.set 3 (.int .u32 (n8 : Int))); have HI8 := Lib.hid hi; have HT8 := Lib.hid hq.tbb; have HA8 := Lib.hid (Rd1.fr HR1.out HQ5.out.rd HQ5.out.tbb (by decide) (by decide) (by decide) (Fr.of_grown hg (some tb))); have HB8 := Lib.hid (Rd2.fr HR2.out HQ5.out.rd HQ5.out.tbb (by decide) (by decide) (Fr.of_grown hg (some tb))); clear hi hg hq KL; dsimp only)
  have hA9 := Rd1.fr HA8.out HI8.out HT8.out (by decide) (by decide) (by decide) (Fr.store w8 p tb 3 (.int .u32 (n8 : Int)))
  have hB9 := Rd2.fr HB8.out HI8.out HT8.out (by decide) (by decide) (Fr.store w8 p tb 3 (.int .u32 (n8 : Int)))
  clear HA8 HB8 HI8 HT8
  generalize w8.setCell ⟨tb, 3, none⟩ (.int .u32 (n8 : Int)) = W8 at HQ8 hA9 hB9 ⊢
  have HA9 := Lib.hid hA9
  have HB9 := Lib.hid hB9
  clear hA9 hB9 d0 f0
  have cc0 := HQ8.out.tbb.cell (j := 0) rfl
  have cc1 := HQ8.out.tbb.cell (j := 1) rfl
  have cc2 := HQ8.out.tbb.cell (j := 2) rfl
  have cc3 := HQ8.out.tbb.cell (j := 3) rfl
  have d0 := HQ8.out.rvb.cell (j := 0) rfl
  have d1 := HQ8.out.rvb.cell (j := 1) rfl
  have d2 := HQ8.out.rvb.cell (j := 2) rfl
  have d3 := HQ8.out.rvb.cell (j := 3) rfl
  have f0 := HQ8.out.rvb.free 0
  have f1 := HQ8.out.rvb.free 1
  have f2 := HQ8.out.rvb.free 2
  have f3 := HQ8.out.rvb.free 3
  go_wp2_with fail
  generalize hW9 : (((W8.setCell ⟨w.heap.size, 0, none⟩ (.int .u32 (n4 : Int))).setCell ⟨w.heap.size, 1, none⟩ (.slice (some ⟨ib, 0, none⟩) k1 k1)).setCell ⟨w.heap.size, 2, none⟩ (.slice (some ⟨ob, 0, none⟩) k2 k2)).setCell ⟨w.heap.size, 3, none⟩ (.int .u32 (n8 : Int)) = W9
  obtain ⟨g1, g2, g3, g4⟩ := HQ8.out.fin hW9
  have hlv := run_loadVar_mid (P := Try.prog) W9 w.heap.size 0 60 _ _ g1.range Try.underlying60 rfl info26
  have ert : rt = (0, ⟨n4, xs, ys, n8⟩, s9) := by rw [HN8.out, HS9.out]; exact HRT.out
  have hA := Rd1.fr HA9.out HQ8.out.rd HQ8.out.rvb (by decide) (by decide) (by decide) g4
  have hB := Rd2.fr HB9.out HQ8.out.rd HQ8.out.rvb (by decide) (by decide) g4
  have hTX : TxN W9 ⟨n4, xs, ys, n8⟩ (.slice (some ⟨ib, 0, none⟩) k1 k1) (.slice (some ⟨ob, 0, none⟩) k2 k2) := ⟨ib, ob, by rw [← HE1.out], by rw [← HE2.out], hA, hB, (fun x hx => ⟨(HI1.out x hx).1, by rw [(HI1.out x hx).2]; exact Nat.zero_le _⟩), HO1.out, HN3.out, HN5.out, H4.out, H8.out⟩
  exact bodyPost_ret (v := .tuple #[.agg #[.int .u32 (n4 : Int), .slice (some ⟨ib, 0, none⟩) k1 k1, .slice (some ⟨ob, 0, none⟩) k2 k2, .int .u32 (n8 : Int)], .int .i64 0]) (by simp [results, Try.results61, asAddr, hlv]) rfl ⟨_, _, _, _, _, _, _, _, _, rfl, by rw [ert], by rw [ert]; exact g2, g3, fun _ => by rw [ert]; exact ⟨rfl, rfl, hTX⟩⟩
set_option maxHeartbeats 4000000 in
theorem parsed_yes (p : Option Nat) (s : Option (List (BitVec 8))) (B : Nat) (w : World) (h : IsR w B p s) (hB : B ≤ w.heap.size) (hl : Short s 100000000) (hm : rM (numS s 4) = true) :
    Calls Try.prog 61 #[ptr p] w (ParsedPost (rT1 (numV s 4) true (cutS (numS s 4) 2)) B p w) := by
  obtain ⟨q, hP⟩ : ∃ q, Value.pointer q = ptr p := ⟨_, rfl⟩
  have hW : Below w.heap.size w (w.alloc (.cells #[.int .u32 0, .slice none 0 0, .slice none 0 0, .int .u32 0] 60)) := (Below.refl _ _).alloc (Nat.le_refl _) _
  have hA := h.below hW hB
  have hv := Blk.new w 60 #[.int .u32 0, .slice none 0 0, .slice none 0 0, .int .u32 0]
  have HV := Lib.hid hv
  have HB := Lib.hid hB
  have HW := Lib.hid hW
  have HNv := Lib.hid (hA.ne hv (by decide))
  obtain ⟨n4, hn4⟩ : ∃ n, n = numV s 4 := ⟨_, rfl⟩
  have h4 := numV_4 s
  have K1 := Lib.hid (num_any p s 4 B _ hA (Nat.le_trans hB hW.size))
  obtain ⟨s1, hs1⟩ : ∃ s', s' = numS s 4 := ⟨_, rfl⟩
  have hl1 : Short s1 100000000 := by rw [hs1]; exact numS_short hl _
  rw [← hn4] at K1 h4 ⊢
  rw [← hs1] at K1 hm ⊢
  have hw4 : IntKind.u32.wrap (n4 : Int) = (n4 : Int) := by rw [IntKind.wrap_u32]; omega
  have K2 : Hid (∀ wq, IsR wq B p s1 → B ≤ wq.heap.size → Calls Try.prog 71 #[.pointer q, .int .i64 2] wq (NewPost (takeL s1 2) s1 B p wq)) := fun wq hq hBq => by rw [hP]; exact peek_any p s1 2 B wq hq hBq hl1
  have K60 : Hid (∀ wq, IsR wq B p s1 → B ≤ wq.heap.size → Calls Try.prog 16 #[.pointer q, .int .i64 2] wq (NewPost (takeL s1 2) (cutS s1 2) B p wq)) := fun wq hq hBq => by rw [hP]; exact take_any p s1 2 B wq hq hBq hl1
  have hl2 : Short (cutS s1 2) 100000000 := cutS_short hl1 _
  obtain ⟨X, hX⟩ : ∃ X, X = takeL s1 2 := ⟨_, rfl⟩
  have hmk : ((strB X).toList == ([0, 1] : List UInt8)) = true := by rw [mark_beq, hX]; exact hm
  rw [← hX] at K2 K60
  obtain ⟨s2, hs2⟩ : ∃ s', s' = cutS s1 2 := ⟨_, rfl⟩
  rw [← hs2] at K60 hl2 ⊢
  have K3 : Hid (∀ wq, IsR wq B p s2 → B ≤ wq.heap.size → Calls Try.prog 72 #[.pointer q] wq (InsOut (rIns s2) B p wq)) := fun wq hq hBq => by rw [hP]; exact parsedIns_any p s2 B wq hq hBq hl2
  have HI1 := Lib.hid (rIns_ok s2)
  have HL3 := Lib.hid (rIns_short hl2)
  have HN3 := Lib.hid (rIns_len s2)
  have ht1 : rT1 n4 true s2 = if (rIns s2).1 = 0 then rT2 n4 true (rIns s2).2.1 (rIns s2).2.2 else ((rIns s2).1, ⟨n4, [], [], 0⟩, (rIns s2).2.2) := rfl
  obtain ⟨rt, hrt⟩ : ∃ r, r = rT1 n4 true s2 := ⟨_, rfl⟩
  rw [← hrt] at ht1 ⊢
  obtain ⟨ri, hri⟩ : ∃ r, r = rIns s2 := ⟨_, rfl⟩
  rw [← hri] at K3 HI1 HL3 HN3 ht1
  have HRT := Lib.hid ht1
  have H4 := Lib.hid h4
  rw [← hP] at K1 ⊢
  have HP := Lib.hid hP
  have Hm := Lib.hid hmk
  clear h hB hl hP hA hv hW hn4 hs1 hl1 hl2 hm hX hri ht1 hrt hmk hs2
  go_enter Try.func61, Try.ntmps61
  go_upto_region 2 with (go_at_call 32; (with_reducible refine K1.out.mono ?_); rintro e w1 ⟨rfl, hi, hg⟩; dsimp only)
  have hPS : PS w (w1.alloc (.cells #[.int .u32 (n4 : Int), .slice none 0 0, .slice none 0 0, .int .u32 0] 60)) B p w.heap.size w1.heap.size [.int .u32 (n4 : Int), .slice none 0 0, .slice none 0 0, .int .u32 0] s1 := by
    have hs1 : w.heap.size < w1.heap.size := Nat.lt_of_lt_of_le HV.out.lt hg.size
    have hbw : Below w1.heap.size w1 (w1.alloc (.cells #[.int .u32 (n4 : Int), .slice none 0 0, .slice none 0 0, .int .u32 0] 60)) := (Below.refl _ _).alloc (Nat.le_refl _) _
    have hB1 : B ≤ w1.heap.size := Nat.le_trans HB.out (by omega)
    exact ⟨hi.below hbw hB1, grown_trans (grown_trans (grown_below' p HW.out) hg) (grown_below' p hbw), (HV.out.grown hg HNv.out).alloc _, Blk.new w1 60 #[.int .u32 (n4 : Int), .slice none 0 0, .slice none 0 0, .int .u32 0], by omega, Nat.le_refl _, by omega, Nat.le_trans hB1 hbw.size⟩
  obtain ⟨tb, htb⟩ : ∃ n, n = w1.heap.size := ⟨_, rfl⟩
  generalize (w1.alloc (.cells #[.int .u32 (n4 : Int), .slice none 0 0, .slice none 0 0, .int .u32 0] 60)) = W1 at hPS ⊢
  rw [← htb] at hPS ⊢
  have HPS := Lib.hid hPS
  clear hPS K1 hi hg HV HNv htb HB HW
  have hmk := Hm.out
  go_upto_region 6 with (first
    | (go_at_call 71; go_loud ((with_reducible refine (K2.out _ HPS.out.rd HPS.out.hB).mono ?_); rintro e w2 ⟨v, rfl, ho, hi, hg⟩; obtain ⟨A, cap, rfl, hR, _⟩ := ho.rd; have hcv := conv_n (n := X.length) (c := cap) hR rfl; have HPS2 := Lib.hid (HPS.out.call hi hg); clear ho hi hg hR K2; dsimp only))
    | (go_at_call 16; (with_reducible refine (K60.out _ HPS2.out.rd HPS2.out.hB).mono ?_); rintro e w3 ⟨v, rfl, ho, hi, hg⟩; have HPS3 := Lib.hid (HPS2.out.call hi hg); clear ho hi hg K60; dsimp only))
  obtain ⟨HQ, hQe⟩ : ∃ h : Hid (PS w w3 B p w.heap.size tb [.int .u32 (n4 : Int), .slice none 0 0, .slice none 0 0, .int .u32 0] s2), h = HPS3 := ⟨_, rfl⟩
  clear hQe HPS3 HPS2 hmk hcv HPS
  generalize w3 = W3 at HQ ⊢
  go_upto_region 7 with (go_at_call 72; (with_reducible refine (K3.out _ HQ.out.rd HQ.out.hB).mono ?_); rintro e w4 ⟨A1, k1, c1, ei, rfl, hr, hi, hg, hok⟩; have hq := HQ.out.call hi hg; have d0 := hq.tbb.cell (j := 1) rfl; have f0 := hq.tbb.free 1; have HQ4 := Lib.hid (hq.set 1 (.slice A1 k1 c1)); have HT4 := Lib.hid hq.tbb; have HS4 := Lib.hid (Nat.le_trans HQ.out.gr.size (Nat.le_refl W3.heap.size)); have Hr := Lib.hid hr; have Hok := Lib.hid hok; have HI4 := Lib.hid hi; have HG4 := Lib.hid hg; clear hr hi hg hok hq K3; dsimp only)
  have HZ : Hid (ri.1 = ei) := Hr
  obtain ⟨W4, hW4⟩ : ∃ W, W = w4.setCell ⟨tb, 1, none⟩ (.slice A1 k1 c1) := ⟨_, rfl⟩
  rw [← hW4] at HQ4 ⊢
  have HW4 := Lib.hid hW4
  clear hW4 d0 f0
  by_cases hc : ei = 0
  rotate_left
  · have hcb : (ei != 0) = true := by simpa using hc
    have cc0 := HQ4.out.tbb.cell (j := 0) rfl
    have cc1 := HQ4.out.tbb.cell (j := 1) rfl
    have cc2 := HQ4.out.tbb.cell (j := 2) rfl
    have cc3 := HQ4.out.tbb.cell (j := 3) rfl
    have d0 := HQ4.out.rvb.cell (j := 0) rfl
    have d1 := HQ4.out.rvb.cell (j := 1) rfl
    have d2 := HQ4.out.rvb.cell (j := 2) rfl
    have d3 := HQ4.out.rvb.cell (j := 3) rfl
    have f0 := HQ4.out.rvb.free 0
    have f1 := HQ4.out.rvb.free 1
    have f2 := HQ4.out.rvb.free 2
    have f3 := HQ4.out.rvb.free 3
    go_wp2_with fail
    generalize hW9 : (((W4.setCell ⟨w.heap.size, 0, none⟩ (.int .u32 (n4 : Int))).setCell ⟨w.heap.size, 1, none⟩ (.slice A1 k1 c1)).setCell ⟨w.heap.size, 2, none⟩ (.slice none 0 0)).setCell ⟨w.heap.size, 3, none⟩ (.int .u32 0) = W9
    obtain ⟨g1, g2, g3, g4⟩ := HQ4.out.fin hW9
    have hlv := run_loadVar_mid (P := Try.prog) W9 w.heap.size 0 60 _ _ g1.range Try.underlying60 rfl info26
    have ert := HRT.out
    rw [HZ.out, if_neg hc] at ert
    exact bodyPost_ret (v := .tuple #[.agg #[.int .u32 (n4 : Int), .slice A1 k1 c1, .slice none 0 0, .int .u32 0], .int .i64 ei]) (by simp [results, Try.results61, asAddr, hlv]) rfl ⟨_, _, _, _, _, _, _, _, _, rfl, by rw [ert], by rw [ert]; exact g2, g3, fun h => absurd h hc⟩
  subst hc
  obtain ⟨ib, vs, rfl, hn1, hcp, hIN, hbI, hib⟩ := Hok.out rfl
  subst c1
  have ht1 := HRT.out
  rw [HZ.out, if_pos rfl] at ht1
  have hR1 : Rd1 W4 ib ri.2.1 := by
    rw [HW4.out]
    exact Rd1.fr ⟨vs, hIN.w (fun x hx => (HI1.out x hx).2), hbI⟩ HI4.out HT4.out (by decide) (by decide) (by decide) (Fr.store _ _ _ _ _)
  have hib2 : w.heap.size ≤ ib := Nat.le_trans HS4.out hib
  clear hIN hbI hib HRT Hok HZ Hr HI4 HT4 HG4 HW4 HS4
  obtain ⟨xs, hxs⟩ : ∃ x, x = ri.2.1 := ⟨_, rfl⟩
  obtain ⟨s3, hs3⟩ : ∃ x, x = ri.2.2 := ⟨_, rfl⟩
  rw [← hxs] at HI1 HN3 hn1 ht1 hR1
  rw [← hs3] at HL3 HQ4 ht1
  clear hxs hs3
  have K5 : Hid (∀ wq, IsR wq B p s3 → B ≤ wq.heap.size → Calls Try.prog 73 #[.pointer q] wq (OutsOut (rOuts s3) B p wq)) := fun wq hq hBq => by rw [HP.out]; exact parsedOuts_any p s3 B wq hq hBq HL3.out
  have HO1 := Lib.hid (rOuts_ok s3)
  have HL5 := Lib.hid (rOuts_short HL3.out)
  have HN5 := Lib.hid (rOuts_len s3)
  have ht2 : rt = if (rOuts s3).1 = 0 then rT3 n4 true xs (rOuts s3).2.1 (rOuts s3).2.2 else ((rOuts s3).1, ⟨n4, xs, [], 0⟩, (rOuts s3).2.2) := ht1
  obtain ⟨ro, hro⟩ : ∃ r, r = rOuts s3 := ⟨_, rfl⟩
  rw [← hro] at K5 HO1 HL5 HN5 ht2
  have HRT := Lib.hid ht2
  have HR1 := Lib.hid hR1
  have HE1 := Lib.hid hn1
  have HIB := Lib.hid hib2
  have hcb : ((0 : Int) != 0) = false := by decide
  clear hro ht1 ht2 hR1 hn1 hib2 HL3
  go_upto_region 10 with (go_at_call 73; (with_reducible refine (K5.out _ HQ4.out.rd HQ4.out.hB).mono ?_); rintro e w5 ⟨A2, k2, c2, eo, rfl, hr, hi, hg, hok⟩; have hq := HQ4.out.call hi hg; have d0 := hq.tbb.cell (j := 2) rfl; have f0 := hq.tbb.free 2; have HQ5 := Lib.hid (hq.set 2 (.slice A2 k2 c2)); have HT5 := Lib.hid hq.tbb; have Hr := Lib.hid hr; have Hok := Lib.hid hok; have HI5 := Lib.hid hi; have HR5 := Lib.hid (Rd1.fr HR1.out HQ4.out.rd HQ4.out.tbb (by decide) (by decide) (by decide) (Fr.of_grown hg (some tb))); clear hr hi hg hok hq K5; dsimp only)
  have HZ : Hid (ro.1 = eo) := Hr
  obtain ⟨W5, hW5⟩ : ∃ W, W = w5.setCell ⟨tb, 2, none⟩ (.slice A2 k2 c2) := ⟨_, rfl⟩
  rw [← hW5] at HQ5 ⊢
  have HW5 := Lib.hid hW5
  clear hW5 d0 f0 hcb
  by_cases hc : eo = 0
  rotate_left
  · have hcb : (eo != 0) = true := by simpa using hc
    have cc0 := HQ5.out.tbb.cell (j := 0) rfl
    have cc1 := HQ5.out.tbb.cell (j := 1) rfl
    have cc2 := HQ5.out.tbb.cell (j := 2) rfl
    have cc3 := HQ5.out.tbb.cell (j := 3) rfl
    have d0 := HQ5.out.rvb.cell (j := 0) rfl
    have d1 := HQ5.out.rvb.cell (j := 1) rfl
    have d2 := HQ5.out.rvb.cell (j := 2) rfl
    have d3 := HQ5.out.rvb.cell (j := 3) rfl
    have f0 := HQ5.out.rvb.free 0
    have f1 := HQ5.out.rvb.free 1
    have f2 := HQ5.out.rvb.free 2
    have f3 := HQ5.out.rvb.free 3
    go_wp2_with fail
    generalize hW9 : (((W5.setCell ⟨w.heap.size, 0, none⟩ (.int .u32 (n4 : Int))).setCell ⟨w.heap.size, 1, none⟩ (.slice (some ⟨ib, 0, none⟩) k1 k1)).setCell ⟨w.heap.size, 2, none⟩ (.slice A2 k2 c2)).setCell ⟨w.heap.size, 3, none⟩ (.int .u32 0) = W9
    obtain ⟨g1, g2, g3, g4⟩ := HQ5.out.fin hW9
    have hlv := run_loadVar_mid (P := Try.prog) W9 w.heap.size 0 60 _ _ g1.range Try.underlying60 rfl info26
    have ert := HRT.out
    rw [HZ.out, if_neg hc] at ert
    exact bodyPost_ret (v := .tuple #[.agg #[.int .u32 (n4 : Int), .slice (some ⟨ib, 0, none⟩) k1 k1, .slice A2 k2 c2, .int .u32 0], .int .i64 eo]) (by simp [results, Try.results61, asAddr, hlv]) rfl ⟨_, _, _, _, _, _, _, _, _, rfl, by rw [ert], by rw [ert]; exact g2, g3, fun h => absurd h hc⟩
  subst hc
  obtain ⟨ob, us, rfl, hn2, hcp, hON, hbO, hob⟩ := Hok.out rfl
  subst c2
  have ht1 := HRT.out
  rw [HZ.out, if_pos rfl] at ht1
  have hR1 : Rd1 W5 ib xs := by
    rw [HW5.out]
    exact Rd1.fr HR5.out HI5.out HT5.out (by decide) (by decide) (by decide) (Fr.store _ _ _ _ _)
  have hR2 : Rd2 W5 ob ro.2.1 := by
    rw [HW5.out]
    exact Rd2.fr ⟨us, hON, hbO⟩ HI5.out HT5.out (by decide) (by decide) (Fr.store _ _ _ _ _)
  clear hON hbO hob HRT Hok HZ Hr HI5 HT5 HW5 HR5 HR1 HQ4
  obtain ⟨ys, hys⟩ : ∃ x, x = ro.2.1 := ⟨_, rfl⟩
  obtain ⟨s4, hs4⟩ : ∃ x, x = ro.2.2 := ⟨_, rfl⟩
  rw [← hys] at HO1 HN5 hn2 ht1 hR2
  rw [← hs4] at HL5 HQ5 ht1
  clear hys hs4
  have HR1 := Lib.hid hR1
  have HR2 := Lib.hid hR2
  have HE2 := Lib.hid hn2
  have HRT := Lib.hid ht1
  have hcb : ((0 : Int) != 0) = false := by decide
  have HE : Hid ([Value.int .u32 (n4 : Int), .slice (some ⟨ib, 0, none⟩) k1 k1, .slice (some ⟨ob, 0, none⟩) k2 k2, .int .u32 0] = (([Value.int .u32 (n4 : Int), .slice none 0 0, .slice none 0 0, .int .u32 0].set 1 (.slice (some ⟨ib, 0, none⟩) k1 k1)).set 2 (.slice (some ⟨ob, 0, none⟩) k2 k2))) := rfl
  rw [← HE.out] at HQ5
  clear HE hR1 hR2 hn2 ht1
  have cc1 := HQ5.out.tbb.cell (j := 1) rfl
  have K6 : Hid (Calls Try.prog 74 #[.pointer q, .slice (some ⟨ib, 0, none⟩) k1 k1] W5 (StepPost (XPost (rX k1 s4) xs B ib p W5) (ErrPost (rX k1 s4).1 (rX k1 s4).2.2 B p (some ib) W5))) := by
    obtain ⟨vs, h1, h2⟩ := HR1.out
    rw [HP.out]
    exact parseWits_any p s4 B ib k1 k1 xs vs W5 HQ5.out.rd HQ5.out.hB HL5.out h2 h1 HE1.out (by have := HN3.out; have := HE1.out; omega) (fun x hx => (HI1.out x hx).1.1)
  have HX1 := Lib.hid (rX_n k1 s4)
  have ht3 : rt = if (rX xs.length s4).1 = 0 then rT4 n4 true (wW xs (rX xs.length s4).2.1) ys (rX xs.length s4).2.2 else ((rX xs.length s4).1, ⟨n4, xs, ys, 0⟩, (rX xs.length s4).2.2) := HRT.out
  rw [HE1.out] at ht3
  have HL6 := Lib.hid (rX_short k1 s4 HL5.out)
  obtain ⟨rx, hrx⟩ : ∃ r, r = rX k1 s4 := ⟨_, rfl⟩
  rw [← hrx] at K6 HX1 ht3 HL6
  clear HRT hrx HL5
  have HRT := Lib.hid ht3
  clear ht3
  go_upto_region 14 with (go_at_call 74; (with_reducible refine K6.out.mono ?_); rintro e w6 ⟨ew, rfl, h0, h1⟩; have H0 := Lib.hid h0; have H1 := Lib.hid h1; clear h0 h1 K6 cc1; dsimp only)
  clear hcb
  by_cases hc : ew = 0
  rotate_left
  · obtain ⟨hz, hi, hf⟩ := H1.out hc
    have HZ := Lib.hid hz
    have HQ6 : Hid (PS w w6 B p w.heap.size tb [.int .u32 (n4 : Int), .slice (some ⟨ib, 0, none⟩) k1 k1, .slice (some ⟨ob, 0, none⟩) k2 k2, .int .u32 0] rx.2.2) := by
      obtain ⟨vs, h1, h2⟩ := HR1.out
      exact HQ5.out.fr hi hf h2 HIB.out
    have hcb : (ew != 0) = true := by simpa using hc
    clear hi hf hz H0 H1
    have cc0 := HQ6.out.tbb.cell (j := 0) rfl
    have cc1 := HQ6.out.tbb.cell (j := 1) rfl
    have cc2 := HQ6.out.tbb.cell (j := 2) rfl
    have cc3 := HQ6.out.tbb.cell (j := 3) rfl
    have d0 := HQ6.out.rvb.cell (j := 0) rfl
    have d1 := HQ6.out.rvb.cell (j := 1) rfl
    have d2 := HQ6.out.rvb.cell (j := 2) rfl
    have d3 := HQ6.out.rvb.cell (j := 3) rfl
    have f0 := HQ6.out.rvb.free 0
    have f1 := HQ6.out.rvb.free 1
    have f2 := HQ6.out.rvb.free 2
    have f3 := HQ6.out.rvb.free 3
    go_wp2_with fail
    generalize hW9 : (((w6.setCell ⟨w.heap.size, 0, none⟩ (.int .u32 (n4 : Int))).setCell ⟨w.heap.size, 1, none⟩ (.slice (some ⟨ib, 0, none⟩) k1 k1)).setCell ⟨w.heap.size, 2, none⟩ (.slice (some ⟨ob, 0, none⟩) k2 k2)).setCell ⟨w.heap.size, 3, none⟩ (.int .u32 0) = W9
    obtain ⟨g1, g2, g3, g4⟩ := HQ6.out.fin hW9
    have hlv := run_loadVar_mid (P := Try.prog) W9 w.heap.size 0 60 _ _ g1.range Try.underlying60 rfl info26
    have ert := HRT.out
    rw [HZ.out, if_neg hc] at ert
    exact bodyPost_ret (v := .tuple #[.agg #[.int .u32 (n4 : Int), .slice (some ⟨ib, 0, none⟩) k1 k1, .slice (some ⟨ob, 0, none⟩) k2 k2, .int .u32 0], .int .i64 ew]) (by simp [results, Try.results61, asAddr, hlv]) rfl ⟨_, _, _, _, _, _, _, _, _, rfl, by rw [ert], by rw [ert]; exact g2, g3, fun h => absurd h hc⟩
  subst hc
  obtain ⟨hz, hlx, vs6, hx6, hb6, hi6, hf6⟩ := H0.out rfl
  have HQ6 : Hid (PS w w6 B p w.heap.size tb [.int .u32 (n4 : Int), .slice (some ⟨ib, 0, none⟩) k1 k1, .slice (some ⟨ob, 0, none⟩) k2 k2, .int .u32 0] rx.2.2) := by
    obtain ⟨vs, h1, h2⟩ := HR1.out
    exact HQ5.out.fr hi6 hf6 h2 HIB.out
  have hR2 : Rd2 w6 ob ys := by
    obtain ⟨vs, h1, h2⟩ := HR1.out
    exact Rd2.fr HR2.out HQ5.out.rd h2 (by decide) (by decide) hf6
  have hR1 : Rd1 w6 ib (wW xs rx.2.1) := ⟨vs6, hx6, hb6⟩
  have hE1 : (wW xs rx.2.1).length = k1 := by rw [wW_len, hlx, Nat.min_self]; exact HE1.out
  have hOk : ∀ x ∈ wW xs rx.2.1, OkIn x ∧ x.wt.length ≤ 1000000 := fun x hx => ⟨wW_ok xs _ (fun y hy => (HI1.out y hy).1) x hx, Nat.le_trans (wW_wt xs _ 8 HX1.out x hx) (by decide)⟩
  have ht3 := HRT.out
  rw [hz, if_pos rfl] at ht3
  have hk : k1 ≤ 16 := by have := HN3.out; have := HE1.out; omega
  clear HRT HR1 HR2 HI1 HN3 HE1 H0 H1 hx6 hb6 hi6 hf6 hlx HX1 hz HQ5
  obtain ⟨xw, hxw⟩ : ∃ x, x = wW xs rx.2.1 := ⟨_, rfl⟩
  obtain ⟨s6, hs6⟩ : ∃ x, x = rx.2.2 := ⟨_, rfl⟩
  rw [← hxw] at hR1 hE1 hOk ht3
  rw [← hs6] at HQ6 HL6 ht3
  clear hxw hs6
  have hTX := Rd1.tx (l := 0) hR1 hR2 hOk HO1.out hE1 HE2.out hk (by rw [← HE2.out]; exact HN5.out) H4.out (by decide)
  have K14 : Hid (Calls Try.prog 57 #[.agg #[.int .u32 (n4 : Int), .slice (some ⟨ib, 0, none⟩) k1 k1, .slice (some ⟨ob, 0, none⟩) k2 k2, .int .u32 0]] w6 (BoolPost (witd ⟨n4, xw, ys, 0⟩) w6)) := witnessed_any _ _ _ w6 hTX
  have HN3 : Hid (xw.length ≤ 16) := by rw [hE1]; exact hk
  have HR1 := Lib.hid hR1
  have HR2 := Lib.hid hR2
  have HE1 := Lib.hid hE1
  have HOk := Lib.hid hOk
  have ht4 : rt = if True ∧ witd ⟨n4, xw, ys, 0⟩ = false then (4, ⟨n4, xw, ys, 0⟩, s6) else (0, ⟨n4, xw, ys, numV s6 4⟩, numS s6 4) := by rw [ht3]; unfold rT4; simp
  clear hR1 hR2 hE1 hOk hTX hk ht3
  have hcb : ((0 : Int) != 0) = false := by decide
  have cc0 := HQ6.out.tbb.cell (j := 0) rfl
  have cc1 := HQ6.out.tbb.cell (j := 1) rfl
  have cc2 := HQ6.out.tbb.cell (j := 2) rfl
  have cc3 := HQ6.out.tbb.cell (j := 3) rfl
  have d0 := HQ6.out.rvb.cell (j := 0) rfl
  have d1 := HQ6.out.rvb.cell (j := 1) rfl
  have d2 := HQ6.out.rvb.cell (j := 2) rfl
  have d3 := HQ6.out.rvb.cell (j := 3) rfl
  have f0 := HQ6.out.rvb.free 0
  have f1 := HQ6.out.rvb.free 1
  have f2 := HQ6.out.rvb.free 2
  have f3 := HQ6.out.rvb.free 3
  cases hwd : witd ⟨n4, xw, ys, 0⟩
  · rw [hwd] at K14 ht4
    have HRT := Lib.hid ht4
    clear ht4 hwd
    go_upto_region 17 with (go_at_call 57; (with_reducible refine K14.out.mono ?_); rintro e w7 ⟨rfl, hb⟩; have HQ7 := Lib.hid (HQ6.out.same hb); clear hb K14; dsimp only)
    clear cc0 cc1 cc2 cc3 d0 d1 d2 d3 f0 f1 f2 f3
    have cc0 := HQ7.out.tbb.cell (j := 0) rfl
    have cc1 := HQ7.out.tbb.cell (j := 1) rfl
    have cc2 := HQ7.out.tbb.cell (j := 2) rfl
    have cc3 := HQ7.out.tbb.cell (j := 3) rfl
    have d0 := HQ7.out.rvb.cell (j := 0) rfl
    have d1 := HQ7.out.rvb.cell (j := 1) rfl
    have d2 := HQ7.out.rvb.cell (j := 2) rfl
    have d3 := HQ7.out.rvb.cell (j := 3) rfl
    have f0 := HQ7.out.rvb.free 0
    have f1 := HQ7.out.rvb.free 1
    have f2 := HQ7.out.rvb.free 2
    have f3 := HQ7.out.rvb.free 3
    go_wp2_with fail
    generalize hW9 : (((w7.setCell ⟨w.heap.size, 0, none⟩ (.int .u32 (n4 : Int))).setCell ⟨w.heap.size, 1, none⟩ (.slice (some ⟨ib, 0, none⟩) k1 k1)).setCell ⟨w.heap.size, 2, none⟩ (.slice (some ⟨ob, 0, none⟩) k2 k2)).setCell ⟨w.heap.size, 3, none⟩ (.int .u32 0) = W9
    obtain ⟨g1, g2, g3, g4⟩ := HQ7.out.fin hW9
    have hlv := run_loadVar_mid (P := Try.prog) W9 w.heap.size 0 60 _ _ g1.range Try.underlying60 rfl info26
    have ert := HRT.out
    rw [if_pos (by simp)] at ert
    exact bodyPost_ret (v := .tuple #[.agg #[.int .u32 (n4 : Int), .slice (some ⟨ib, 0, none⟩) k1 k1, .slice (some ⟨ob, 0, none⟩) k2 k2, .int .u32 0], .int .i64 4]) (by simp [results, Try.results61, asAddr, hlv]) rfl ⟨_, _, _, _, _, _, _, _, _, rfl, by rw [ert], by rw [ert]; exact g2, g3, fun h => absurd h (by decide)⟩
  rw [hwd] at K14 ht4
  rw [if_neg (by simp)] at ht4
  have HRT := Lib.hid ht4
  clear ht4 hwd
  go_upto_region 18 with (go_at_call 57; (with_reducible refine K14.out.mono ?_); rintro e w7 ⟨rfl, hb⟩; have HQ7 := Lib.hid (HQ6.out.same hb); have hF7 : Fr w6 w7 p (some tb) := Fr.of_grown ⟨hb.os, hb.tape, hb.output, hb.size, fun k hk _ => hb.block k hk⟩ _; have HA7 := Lib.hid (Rd1.fr HR1.out HQ6.out.rd HQ6.out.tbb (by decide) (by decide) (by decide) hF7); have HB7 := Lib.hid (Rd2.fr HR2.out HQ6.out.rd HQ6.out.tbb (by decide) (by decide) hF7); clear hb hF7 K14 HR1 HR2; dsimp only)
  clear cc0 cc1 cc2 cc3 d0 d1 d2 d3 f0 f1 f2 f3 hcb HQ6
  have HR1 := HA7
  have HR2 := HB7
  clear HA7 HB7
  have KL : Hid (∀ wq, IsR wq B p s6 → B ≤ wq.heap.size → Calls Try.prog 32 #[.pointer q, .int .i64 4] wq (NumPost (numV s6 4) (numS s6 4) B p wq)) := fun wq hq hBq => by rw [HP.out]; exact num_any p s6 4 B wq hq hBq
  have h8 := numV_4 s6
  obtain ⟨n8, hn8⟩ : ∃ n, n = numV s6 4 := ⟨_, rfl⟩
  obtain ⟨s9, hs9⟩ : ∃ x, x = numS s6 4 := ⟨_, rfl⟩
  rw [← hn8] at KL h8
  rw [← hs9] at KL
  have HN8 := Lib.hid hn8
  have HS9 := Lib.hid hs9
  have H8 := Lib.hid h8
  have hw8 : IntKind.u32.wrap (n8 : Int) = (n8 : Int) := by rw [IntKind.wrap_u32]; omega
  clear hn8 hs9 h8
  go_upto_region 19 with (go_at_call 32; (with_reducible refine (KL.out _ HQ7.out.rd HQ7.out.hB).mono ?_); rintro e w8 ⟨rfl, hi, hg⟩; have hq := HQ7.out.call hi hg; have d0 := hq.tbb.cell (j := 3) rfl; have f0 := hq.tbb.free 3; have HQ8 := Lib.hid (hq.set 3 (.int .u32 (n8 : Int))); have HI8 := Lib.hid hi; have HT8 := Lib.hid hq.tbb; have HA8 := Lib.hid (Rd1.fr HR1.out HQ7.out.rd HQ7.out.tbb (by decide) (by decide) (by decide) (Fr.of_grown hg (some tb))); have HB8 := Lib.hid (Rd2.fr HR2.out HQ7.out.rd HQ7.out.tbb (by decide) (by decide) (Fr.of_grown hg (some tb))); clear hi hg hq KL; dsimp only)
  have hA9 := Rd1.fr HA8.out HI8.out HT8.out (by decide) (by decide) (by decide) (Fr.store w8 p tb 3 (.int .u32 (n8 : Int)))
  have hB9 := Rd2.fr HB8.out HI8.out HT8.out (by decide) (by decide) (Fr.store w8 p tb 3 (.int .u32 (n8 : Int)))
  clear HA8 HB8 HI8 HT8
  generalize w8.setCell ⟨tb, 3, none⟩ (.int .u32 (n8 : Int)) = W8 at HQ8 hA9 hB9 ⊢
  have HA9 := Lib.hid hA9
  have HB9 := Lib.hid hB9
  clear hA9 hB9 d0 f0
  have cc0 := HQ8.out.tbb.cell (j := 0) rfl
  have cc1 := HQ8.out.tbb.cell (j := 1) rfl
  have cc2 := HQ8.out.tbb.cell (j := 2) rfl
  have cc3 := HQ8.out.tbb.cell (j := 3) rfl
  have d0 := HQ8.out.rvb.cell (j := 0) rfl
  have d1 := HQ8.out.rvb.cell (j := 1) rfl
  have d2 := HQ8.out.rvb.cell (j := 2) rfl
  have d3 := HQ8.out.rvb.cell (j := 3) rfl
  have f0 := HQ8.out.rvb.free 0
  have f1 := HQ8.out.rvb.free 1
  have f2 := HQ8.out.rvb.free 2
  have f3 := HQ8.out.rvb.free 3
  go_wp2_with fail
  generalize hW9 : (((W8.setCell ⟨w.heap.size, 0, none⟩ (.int .u32 (n4 : Int))).setCell ⟨w.heap.size, 1, none⟩ (.slice (some ⟨ib, 0, none⟩) k1 k1)).setCell ⟨w.heap.size, 2, none⟩ (.slice (some ⟨ob, 0, none⟩) k2 k2)).setCell ⟨w.heap.size, 3, none⟩ (.int .u32 (n8 : Int)) = W9
  obtain ⟨g1, g2, g3, g4⟩ := HQ8.out.fin hW9
  have hlv := run_loadVar_mid (P := Try.prog) W9 w.heap.size 0 60 _ _ g1.range Try.underlying60 rfl info26
  have ert : rt = (0, ⟨n4, xw, ys, n8⟩, s9) := by rw [HN8.out, HS9.out]; exact HRT.out
  have hA := Rd1.fr HA9.out HQ8.out.rd HQ8.out.rvb (by decide) (by decide) (by decide) g4
  have hB := Rd2.fr HB9.out HQ8.out.rd HQ8.out.rvb (by decide) (by decide) g4
  have hTX : TxN W9 ⟨n4, xw, ys, n8⟩ (.slice (some ⟨ib, 0, none⟩) k1 k1) (.slice (some ⟨ob, 0, none⟩) k2 k2) := ⟨ib, ob, by rw [← HE1.out], by rw [← HE2.out], hA, hB, HOk.out, HO1.out, HN3.out, HN5.out, H4.out, H8.out⟩
  exact bodyPost_ret (v := .tuple #[.agg #[.int .u32 (n4 : Int), .slice (some ⟨ib, 0, none⟩) k1 k1, .slice (some ⟨ob, 0, none⟩) k2 k2, .int .u32 (n8 : Int)], .int .i64 0]) (by simp [results, Try.results61, asAddr, hlv]) rfl ⟨_, _, _, _, _, _, _, _, _, rfl, by rw [ert], by rw [ert]; exact g2, g3, fun _ => by rw [ert]; exact ⟨rfl, rfl, hTX⟩⟩
theorem parsed_any (p : Option Nat) (s : Option (List (BitVec 8))) (B : Nat) (w : World) (h : IsR w B p s) (hB : B ≤ w.heap.size) (hl : Short s 100000000) :
    Calls Try.prog 61 #[ptr p] w (ParsedPost (rT s) B p w) := by
  unfold rT
  cases hm : rM (numS s 4)
  · exact parsed_no p s B w h hB hl hm
  · exact parsed_yes p s B w h hB hl hm
open Go.RowKit
set_option linter.unusedVariables false
set_option linter.unusedSimpArgs false
set_option maxRecDepth 100000
def tx00 : TTx := ⟨0, [], [], 0⟩
theorem tx00_ok (w : World) (B : Nat) : TxOk w B tx00 (.slice none 0 0) (.slice none 0 0) :=
  ⟨⟨none, 0, rfl, Nat.le_refl _, by omega, fun h => by simp [tx00] at h⟩, ⟨none, 0, rfl, Nat.le_refl _, by omega, fun h => by simp [tx00] at h⟩, by decide, by decide⟩
def ParsePost (r : Int × TTx × Option (List (BitVec 8))) (B : Nat) (p : Option Nat) (w : World) (e : Ending) (w' : World) : Prop :=
  ∃ i o, e = .returned (.tuple #[txV r.2.1 i o, .int .i64 r.1]) ∧ (r.1 = 0 → TxN w' r.2.1 i o) ∧ (r.1 ≠ 0 → r.2.1 = tx00 ∧ i = .slice none 0 0 ∧ o = .slice none 0 0) ∧ IsR w' B p r.2.2 ∧ w.grownBy w' p
theorem ParsePost.ok {r : Int × TTx × Option (List (BitVec 8))} {B : Nat} {p : Option Nat} {w : World} {e : Ending} {w' : World} (h : ParsePost r B p w e w') : ∃ i o, e = .returned (.tuple #[txV r.2.1 i o, .int .i64 r.1]) ∧ TxOk w' w'.heap.size r.2.1 i o ∧ IsR w' B p r.2.2 ∧ w.grownBy w' p := by
  obtain ⟨i, o, e, h1, h2, h3, h4⟩ := h
  refine ⟨i, o, e, ?_, h3, h4⟩
  by_cases hc : r.1 = 0
  · exact (h1 hc).ok
  · obtain ⟨e1, e2, e3⟩ := h2 hc
    rw [e1, e2, e3]; exact tx00_ok _ _
set_option maxHeartbeats 4000000 in
theorem parse_any (p : Option Nat) (s : Option (List (BitVec 8))) (B : Nat) (w : World) (h : IsR w B p s) (hB : B ≤ w.heap.size) (hl : Short s 100000000) :
    Calls Try.prog 36 #[ptr p] w (ParsePost (rP s) B p w) := by
  obtain ⟨q, hP⟩ : ∃ q, Value.pointer q = ptr p := ⟨_, rfl⟩
  have hW : Below w.heap.size w (w.alloc (.cells #[.int .u32 0, .slice none 0 0, .slice none 0 0, .int .u32 0] 60)) := (Below.refl _ _).alloc (Nat.le_refl _) _
  have hA := h.below hW hB
  have hv := Blk.new w 60 #[.int .u32 0, .slice none 0 0, .slice none 0 0, .int .u32 0]
  have HV := Lib.hid hv
  have HB := Lib.hid hB
  have HW := Lib.hid hW
  have HNv := Lib.hid (hA.ne hv (by decide))
  have K1 := Lib.hid (parsed_any p s B _ hA (Nat.le_trans hB hW.size) hl)
  have KT : Hid (∀ (s' : Option (List (BitVec 8))) (wq : World), IsR wq B p s' → Calls Try.prog 37 #[.pointer q] wq fun e w' => e = .returned (.bool s'.isNone) ∧ wq = w') := fun s' wq hq => by rw [hP]; exact torn_any p s' B wq hq
  obtain ⟨rp, hrp⟩ : ∃ r, r = rP s := ⟨_, rfl⟩
  have hpe : rP s = if (rT s).1 = 0 ∧ (rT s).2.2.isNone = true then (4, ⟨0, [], [], 0⟩, (rT s).2.2) else if (rT s).1 = 0 then rT s else ((rT s).1, ⟨0, [], [], 0⟩, (rT s).2.2) := rfl
  rw [← hrp] at hpe ⊢
  obtain ⟨rt, hrt⟩ : ∃ r, r = rT s := ⟨_, rfl⟩
  rw [← hrt] at K1 hpe
  have HRP := Lib.hid hpe
  rw [← hP] at K1 ⊢
  clear h hB hl hP hA hv hW hrp hpe hrt
  go_enter Try.func36, Try.ntmps36
  go_upto_region 2 with (go_at_call 61; (with_reducible refine K1.out.mono ?_); rintro e w1 ⟨V, L, A1, n1, c1, A2, n2, c2, c, rfl, hr, hi, hg, hok⟩; dsimp only)
  have hPS : PS w (w1.alloc (.cells #[.int .u32 V, .slice A1 n1 c1, .slice A2 n2 c2, .int .u32 L] 60)) B p w.heap.size w1.heap.size [.int .u32 V, .slice A1 n1 c1, .slice A2 n2 c2, .int .u32 L] rt.2.2 := by
    have hs1 : w.heap.size < w1.heap.size := Nat.lt_of_lt_of_le HV.out.lt hg.size
    have hbw : Below w1.heap.size w1 (w1.alloc (.cells #[.int .u32 V, .slice A1 n1 c1, .slice A2 n2 c2, .int .u32 L] 60)) := (Below.refl _ _).alloc (Nat.le_refl _) _
    have hB1 : B ≤ w1.heap.size := Nat.le_trans HB.out (by omega)
    exact ⟨hi.below hbw hB1, grown_trans (grown_trans (grown_below' p HW.out) hg) (grown_below' p hbw), (HV.out.grown hg HNv.out).alloc _, Blk.new w1 60 #[.int .u32 V, .slice A1 n1 c1, .slice A2 n2 c2, .int .u32 L], by omega, Nat.le_refl _, by omega, Nat.le_trans hB1 hbw.size⟩
  have hok2 : c = 0 → V = (rt.2.1.ver : Int) ∧ L = (rt.2.1.lock : Int) ∧ TxN (w1.alloc (.cells #[.int .u32 V, .slice A1 n1 c1, .slice A2 n2 c2, .int .u32 L] 60)) rt.2.1 (.slice A1 n1 c1) (.slice A2 n2 c2) := fun h0 => by
    obtain ⟨e1, e2, h3⟩ := hok h0
    refine ⟨e1, e2, h3.fr hi (HV.out.grown hg HNv.out) ?_⟩
    have hbw : Below w1.heap.size w1 (w1.alloc (.cells #[.int .u32 V, .slice A1 n1 c1, .slice A2 n2 c2, .int .u32 L] 60)) := (Below.refl _ _).alloc (Nat.le_refl _) _
    exact ⟨hbw.os, hbw.tape, hbw.output, hbw.size, fun k hk _ _ => hbw.block k hk⟩
  obtain ⟨tb, htb⟩ : ∃ n, n = w1.heap.size := ⟨_, rfl⟩
  generalize (w1.alloc (.cells #[.int .u32 V, .slice A1 n1 c1, .slice A2 n2 c2, .int .u32 L] 60)) = W1 at hPS hok2 ⊢
  rw [← htb] at hPS ⊢
  have HQ := Lib.hid hPS
  have HOk := Lib.hid hok2
  have HR := Lib.hid hr
  have hrt : Hid (rt.1 = c) := hr
  clear hPS K1 hi hg HV HNv htb HB HW hok hok2 hr
  by_cases hc : c = 0
  · subst hc
    obtain ⟨rfl, rfl, hTX⟩ := HOk.out rfl
    have HTX := Lib.hid hTX
    clear HOk hTX
    cases hN : rt.2.2.isNone
    · have hpe := HRP.out
      rw [hrt.out, hN, if_neg (by simp), if_pos rfl] at hpe
      subst hpe
      clear HRP
      have cc0 := HQ.out.tbb.cell (j := 0) rfl
      have cc1 := HQ.out.tbb.cell (j := 1) rfl
      have cc2 := HQ.out.tbb.cell (j := 2) rfl
      have cc3 := HQ.out.tbb.cell (j := 3) rfl
      have d0 := HQ.out.rvb.cell (j := 0) rfl
      have d1 := HQ.out.rvb.cell (j := 1) rfl
      have d2 := HQ.out.rvb.cell (j := 2) rfl
      have d3 := HQ.out.rvb.cell (j := 3) rfl
      have f0 := HQ.out.rvb.free 0
      have f1 := HQ.out.rvb.free 1
      have f2 := HQ.out.rvb.free 2
      have f3 := HQ.out.rvb.free 3
      go_wp2_with (go_at_call 37; (with_reducible refine (KT.out _ _ HQ.out.rd).mono ?_); rintro e w2 ⟨rfl, rfl⟩; rw [hN]; dsimp only)
      generalize hW9 : (((W1.setCell ⟨w.heap.size, 0, none⟩ (.int .u32 (rp.2.1.ver : Int))).setCell ⟨w.heap.size, 1, none⟩ (.slice A1 n1 c1)).setCell ⟨w.heap.size, 2, none⟩ (.slice A2 n2 c2)).setCell ⟨w.heap.size, 3, none⟩ (.int .u32 (rp.2.1.lock : Int)) = W9
      obtain ⟨g1, g2, g3, g4⟩ := HQ.out.fin hW9
      have hlv := run_loadVar_mid (P := Try.prog) W9 w.heap.size 0 60 _ _ g1.range Try.underlying60 rfl info26
      have hfin : ParsePost rp B p w (.returned (.tuple #[.agg #[.int .u32 (rp.2.1.ver : Int), .slice A1 n1 c1, .slice A2 n2 c2, .int .u32 (rp.2.1.lock : Int)], .int .i64 0])) W9 := ⟨.slice A1 n1 c1, .slice A2 n2 c2, by rw [hrt.out]; rfl, fun _ => HTX.out.fr HQ.out.rd HQ.out.rvb g4, fun h => absurd hrt.out h, g2, g3⟩
      exact bodyPost_ret (v := .tuple #[.agg #[.int .u32 (rp.2.1.ver : Int), .slice A1 n1 c1, .slice A2 n2 c2, .int .u32 (rp.2.1.lock : Int)], .int .i64 0]) (by simp [results, Try.results36, asAddr, hlv]) rfl hfin
    · have hpe := HRP.out
      rw [hrt.out, hN, if_pos ⟨rfl, rfl⟩] at hpe
      clear HRP
      have HPE := Lib.hid hpe
      clear hpe
      have cc0 := HQ.out.tbb.cell (j := 0) rfl
      have cc1 := HQ.out.tbb.cell (j := 1) rfl
      have cc2 := HQ.out.tbb.cell (j := 2) rfl
      have cc3 := HQ.out.tbb.cell (j := 3) rfl
      have d0 := HQ.out.rvb.cell (j := 0) rfl
      have d1 := HQ.out.rvb.cell (j := 1) rfl
      have d2 := HQ.out.rvb.cell (j := 2) rfl
      have d3 := HQ.out.rvb.cell (j := 3) rfl
      have f0 := HQ.out.rvb.free 0
      have f1 := HQ.out.rvb.free 1
      have f2 := HQ.out.rvb.free 2
      have f3 := HQ.out.rvb.free 3
      go_wp2_with (go_at_call 37; (with_reducible refine (KT.out _ _ HQ.out.rd).mono ?_); rintro e w2 ⟨rfl, rfl⟩; rw [hN]; dsimp only)
      generalize hW9 : (((W1.setCell ⟨w.heap.size, 0, none⟩ (.int .u32 0)).setCell ⟨w.heap.size, 1, none⟩ (.slice none 0 0)).setCell ⟨w.heap.size, 2, none⟩ (.slice none 0 0)).setCell ⟨w.heap.size, 3, none⟩ (.int .u32 0) = W9
      obtain ⟨g1, g2, g3, g4⟩ := HQ.out.fin hW9
      have hlv := run_loadVar_mid (P := Try.prog) W9 w.heap.size 0 60 _ _ g1.range Try.underlying60 rfl info26
      have hfin : ParsePost rp B p w (.returned (.tuple #[.agg #[.int .u32 0, .slice none 0 0, .slice none 0 0, .int .u32 0], .int .i64 4])) W9 := by
        rw [HPE.out]; exact ⟨.slice none 0 0, .slice none 0 0, rfl, fun h => absurd h (show (4 : Int) ≠ 0 by decide), fun _ => ⟨rfl, rfl, rfl⟩, g2, g3⟩
      exact bodyPost_ret (v := .tuple #[.agg #[.int .u32 0, .slice none 0 0, .slice none 0 0, .int .u32 0], .int .i64 4]) (by simp [results, Try.results36, asAddr, hlv]) rfl hfin
  · have hpe := HRP.out
    rw [hrt.out, if_neg (fun h => hc h.1), if_neg hc] at hpe
    have HPE := Lib.hid hpe
    have hcb : (c != 0) = true := by simpa using hc
    have hcc : (c == 0) = false := by simpa using hc
    have HC := Lib.hid hc
    clear HRP hpe HOk hc
    have cc0 := HQ.out.tbb.cell (j := 0) rfl
    have cc1 := HQ.out.tbb.cell (j := 1) rfl
    have cc2 := HQ.out.tbb.cell (j := 2) rfl
    have cc3 := HQ.out.tbb.cell (j := 3) rfl
    have d0 := HQ.out.rvb.cell (j := 0) rfl
    have d1 := HQ.out.rvb.cell (j := 1) rfl
    have d2 := HQ.out.rvb.cell (j := 2) rfl
    have d3 := HQ.out.rvb.cell (j := 3) rfl
    have f0 := HQ.out.rvb.free 0
    have f1 := HQ.out.rvb.free 1
    have f2 := HQ.out.rvb.free 2
    have f3 := HQ.out.rvb.free 3
    go_wp2_with fail
    generalize hW9 : (((W1.setCell ⟨w.heap.size, 0, none⟩ (.int .u32 0)).setCell ⟨w.heap.size, 1, none⟩ (.slice none 0 0)).setCell ⟨w.heap.size, 2, none⟩ (.slice none 0 0)).setCell ⟨w.heap.size, 3, none⟩ (.int .u32 0) = W9
    obtain ⟨g1, g2, g3, g4⟩ := HQ.out.fin hW9
    have hlv := run_loadVar_mid (P := Try.prog) W9 w.heap.size 0 60 _ _ g1.range Try.underlying60 rfl info26
    have hfin : ParsePost rp B p w (.returned (.tuple #[.agg #[.int .u32 0, .slice none 0 0, .slice none 0 0, .int .u32 0], .int .i64 c])) W9 := by
      rw [HPE.out]; exact ⟨.slice none 0 0, .slice none 0 0, rfl, fun h => absurd h HC.out, fun _ => ⟨rfl, rfl, rfl⟩, g2, g3⟩
    exact bodyPost_ret (v := .tuple #[.agg #[.int .u32 0, .slice none 0 0, .slice none 0 0, .int .u32 0], .int .i64 c]) (by simp [results, Try.results36, asAddr, hlv]) rfl hfin
open Go.RowKit
set_option linter.unusedVariables false
set_option linter.unusedSimpArgs false
set_option maxRecDepth 100000
theorem take_app {α : Type} (L M : List α) (n : Nat) (h : L.length = n) : (L ++ M).take n = L := by subst h; simp
theorem drop_app {α : Type} (L M : List α) (n : Nat) (h : L.length = n) : (L ++ M).drop n = M := by subst h; simp
theorem hasB_app (L M : List (BitVec 8)) (n : Nat) (h : L.length = n) : hasB (some (L ++ M)) n = true := by simp [hasB]; omega
theorem take_back (L M : List (BitVec 8)) (n : Nat) (h : L.length = n) : takeL (some (L ++ M)) n = L ∧ cutS (some (L ++ M)) n = some M := by
  obtain ⟨a, b, _⟩ := cut_yes (hasB_app L M n h)
  rw [a, b, Int.toNat_natCast, take_app L M n h, drop_app L M n h]
  exact ⟨rfl, rfl⟩
theorem num_back (v k : Nat) (M : List (BitVec 8)) (hk : isW k = true) (hv : v < 2 ^ (8 * k)) : numV (some (les v k ++ M)) k = v ∧ numS (some (les v k ++ M)) k = some M := by
  obtain ⟨a, b⟩ := take_back (les v k) M k (les_len v k)
  unfold numV numS
  rw [if_pos hk, if_pos hk, a, b, lev_les, Nat.mod_eq_of_lt hv]
  exact ⟨rfl, rfl⟩
theorem num4_back (v : Nat) (M : List (BitVec 8)) (hv : v < 4294967296) : numV (some (les v 4 ++ M)) 4 = v ∧ numS (some (les v 4 ++ M)) 4 = some M := num_back v 4 M rfl hv
theorem num8_back (v : Nat) (M : List (BitVec 8)) (hv : v < 18446744073709551616) : numV (some (les v 8 ++ M)) 8 = v ∧ numS (some (les v 8 ++ M)) 8 = some M := num_back v 8 M rfl hv
theorem get_back (n most : Nat) (M : List (BitVec 8)) (hn : n ≤ most) (hm : most < 1000) : gN (some (form n ++ M)) = n ∧ gS (some (form n ++ M)) = some M ∧ gE (some (form n ++ M)) most = 0 := by
  obtain ⟨a, b, c⟩ := get_of_form n (by omega) M
  refine ⟨a, b, ?_⟩
  rw [c most, if_neg (by omega)]
theorem txt_back (L M : List (BitVec 8)) (h : L.length ≤ 128) : tE (some (txt L ++ M)) 128 = 0 ∧ tL (some (txt L ++ M)) 128 = L ∧ tS (some (txt L ++ M)) 128 = some M := by
  have e : txt L ++ M = form L.length ++ (L ++ M) := by simp [txt]
  rw [e]
  obtain ⟨a, b, c⟩ := get_back L.length 128 (L ++ M) h (by omega)
  obtain ⟨d, f⟩ := take_back L M L.length rfl
  have e1 : tE (some (form L.length ++ (L ++ M))) 128 = 0 := by
    unfold tE
    rw [if_pos c, a, b, f, if_neg (by simp)]
  refine ⟨e1, ?_, ?_⟩
  · unfold tL; rw [if_pos e1, a, b, d]
  · unfold tS; rw [if_pos c, a, b, f]
def bareI (x : TIn) : TIn := ⟨x.tx, x.ix, x.sc, x.sq, []⟩
theorem in_back (x : TIn) (M : List (BitVec 8)) (h : OkIn x) (hs : x.sc.length ≤ 128) : rInE (some (inB x ++ M)) = 0 ∧ rInV (some (inB x ++ M)) = bareI x ∧ rInS (some (inB x ++ M)) = some M := by
  have e : inB x ++ M = x.tx ++ (les x.ix 4 ++ (txt x.sc ++ (les x.sq 4 ++ M))) := by simp [inB]
  rw [e]
  obtain ⟨a1, a2⟩ := take_back x.tx (les x.ix 4 ++ (txt x.sc ++ (les x.sq 4 ++ M))) 32 h.1
  have a1 : takeL (some (x.tx ++ (les x.ix 4 ++ (txt x.sc ++ (les x.sq 4 ++ M))))) 32 = x.tx := a1
  have a2 : cutS (some (x.tx ++ (les x.ix 4 ++ (txt x.sc ++ (les x.sq 4 ++ M))))) 32 = some (les x.ix 4 ++ (txt x.sc ++ (les x.sq 4 ++ M))) := a2
  have a3 : hasB (some (x.tx ++ (les x.ix 4 ++ (txt x.sc ++ (les x.sq 4 ++ M))))) 32 = true := hasB_app _ _ 32 h.1
  obtain ⟨b1, b2⟩ := num4_back x.ix (txt x.sc ++ (les x.sq 4 ++ M)) h.2.1
  obtain ⟨c1, c2, c3⟩ := txt_back x.sc (les x.sq 4 ++ M) hs
  obtain ⟨d1, d2⟩ := num4_back x.sq M h.2.2
  refine ⟨?_, ?_, ?_⟩
  · unfold rInE; rw [a2, b2, c1]
  · unfold rInV hashL; rw [if_pos a3, a1, a2, b1, b2, c2, c3, d1]; rfl
  · unfold rInS; rw [a2, b2, c3, d2]
theorem rN_back : ∀ (xs : List TIn) (M : List (BitVec 8)), (∀ x ∈ xs, OkIn x ∧ x.sc.length ≤ 128) → rN xs.length (some ((xs.map inB).flatten ++ M)) = (0, xs.map bareI, some M)
  | [], M, _ => rfl
  | x :: xs, M, h => by
    have e : ((x :: xs).map inB).flatten ++ M = inB x ++ ((xs.map inB).flatten ++ M) := by simp
    rw [e]
    obtain ⟨a, b, c⟩ := in_back x ((xs.map inB).flatten ++ M) (h x (by simp)).1 (h x (by simp)).2
    have ih := rN_back xs M (fun y hy => h y (by simp [hy]))
    simp only [List.length_cons, rN, a, if_true, b, c, ih, List.map_cons]
theorem fitE_zero {n : Nat} (h0 : 0 < n) (h : n ≤ 16) : fitE n = 0 := by
  unfold fitE
  rw [if_neg (by omega), if_neg (by omega)]
theorem cnt_back (n : Nat) (M : List (BitVec 8)) (h0 : 0 < n) (h : n ≤ 16) : pE (some (form n ++ M)) = 0 ∧ pN (some (form n ++ M)) = n ∧ gS (some (form n ++ M)) = some M := by
  obtain ⟨a, b, c⟩ := get_back n 16 M h (by omega)
  refine ⟨?_, ?_, b⟩
  · unfold pE; rw [if_pos c, a, fitE_zero h0 h]
  · unfold pN gV; rw [if_pos c, a]
theorem rIns_back (xs : List TIn) (M : List (BitVec 8)) (h0 : 0 < xs.length) (hl : xs.length ≤ 16) (h : ∀ x ∈ xs, OkIn x ∧ x.sc.length ≤ 128) : rIns (some (form xs.length ++ ((xs.map inB).flatten ++ M))) = (0, xs.map bareI, some M) := by
  obtain ⟨a, b, c⟩ := cnt_back xs.length ((xs.map inB).flatten ++ M) h0 hl
  unfold rIns
  rw [if_pos a, b, c, rN_back xs M h]
theorem i64w_u64 {z : Int} (h : -9223372036854775808 ≤ z ∧ z < 9223372036854775808) : i64w (u64 z) = z := by
  unfold i64w u64
  rw [IntKind.wrap_i64]
  omega
theorem out_back (y : TOut) (M : List (BitVec 8)) (h : OkOut y) (hs : y.sc.length ≤ 128) : tE (numS (some (outB y ++ M)) 8) 128 = 0 ∧ rOut (some (outB y ++ M)) = y ∧ tS (numS (some (outB y ++ M)) 8) 128 = some M := by
  have e : outB y ++ M = les (u64 y.vl) 8 ++ (txt y.sc ++ M) := by simp [outB]
  rw [e]
  obtain ⟨a1, a2⟩ := num8_back (u64 y.vl) (txt y.sc ++ M) (u64_lt _)
  obtain ⟨c1, c2, c3⟩ := txt_back y.sc M hs
  unfold rOut
  rw [a1, a2, c1, c2, c3, i64w_u64 h]
  exact ⟨rfl, rfl, rfl⟩
theorem rO_back : ∀ (ys : List TOut) (M : List (BitVec 8)), (∀ y ∈ ys, OkOut y ∧ y.sc.length ≤ 128) → rO ys.length (some ((ys.map outB).flatten ++ M)) = (0, ys, some M)
  | [], M, _ => rfl
  | y :: ys, M, h => by
    have e : ((y :: ys).map outB).flatten ++ M = outB y ++ ((ys.map outB).flatten ++ M) := by simp
    rw [e]
    obtain ⟨a, b, c⟩ := out_back y ((ys.map outB).flatten ++ M) (h y (by simp)).1 (h y (by simp)).2
    have ih := rO_back ys M (fun z hz => h z (by simp [hz]))
    simp only [List.length_cons, rO, a, if_true, b, c, ih]
theorem rOuts_back (ys : List TOut) (M : List (BitVec 8)) (h0 : 0 < ys.length) (hl : ys.length ≤ 16) (h : ∀ y ∈ ys, OkOut y ∧ y.sc.length ≤ 128) : rOuts (some (form ys.length ++ ((ys.map outB).flatten ++ M))) = (0, ys, some M) := by
  obtain ⟨a, b, c⟩ := cnt_back ys.length ((ys.map outB).flatten ++ M) h0 hl
  unfold rOuts
  rw [if_pos a, b, c, rO_back ys M h]
theorem rI_back : ∀ (Ls : List (List (BitVec 8))) (M : List (BitVec 8)), (∀ L ∈ Ls, L.length ≤ 128) → rI Ls.length (some ((Ls.map txt).flatten ++ M)) = (0, Ls, some M)
  | [], M, _ => rfl
  | L :: Ls, M, h => by
    have e : ((L :: Ls).map txt).flatten ++ M = txt L ++ ((Ls.map txt).flatten ++ M) := by simp
    rw [e]
    obtain ⟨a, b, c⟩ := txt_back L ((Ls.map txt).flatten ++ M) (h L (by simp))
    have ih := rI_back Ls M (fun z hz => h z (by simp [hz]))
    simp only [List.length_cons, rI, a, if_true, b, c, ih]
theorem rW_back (x : TIn) (M : List (BitVec 8)) (hl : x.wt.length ≤ 8) (h : ∀ L ∈ x.wt, L.length ≤ 128) : rW (some (witB x ++ M)) = (0, x.wt, some M) := by
  have e : witB x ++ M = form x.wt.length ++ ((x.wt.map txt).flatten ++ M) := by simp [witB]
  rw [e]
  obtain ⟨a, b, c⟩ := get_back x.wt.length 8 ((x.wt.map txt).flatten ++ M) hl (by omega)
  unfold rW
  rw [if_pos c, a, b, rI_back x.wt M h]
theorem rX_back : ∀ (xs : List TIn) (M : List (BitVec 8)), (∀ x ∈ xs, x.wt.length ≤ 8 ∧ ∀ L ∈ x.wt, L.length ≤ 128) → rX xs.length (some ((xs.map witB).flatten ++ M)) = (0, xs.map TIn.wt, some M)
  | [], M, _ => rfl
  | x :: xs, M, h => by
    have e : ((x :: xs).map witB).flatten ++ M = witB x ++ ((xs.map witB).flatten ++ M) := by simp
    rw [e]
    have a := rW_back x ((xs.map witB).flatten ++ M) (h x (by simp)).1 (h x (by simp)).2
    have ih := rX_back xs M (fun y hy => h y (by simp [hy]))
    simp only [List.length_cons, rX, a, if_true, ih, List.map_cons]
theorem wW_bare : ∀ (xs : List TIn), wW (xs.map bareI) (xs.map TIn.wt) = xs
  | [] => rfl
  | x :: xs => by
    have := wW_bare xs
    unfold wW at this ⊢
    simp only [List.map_cons, List.zipWith_cons_cons, this]
    rfl
end Go.Proofs.Ytpamepkcbhoiaaa
