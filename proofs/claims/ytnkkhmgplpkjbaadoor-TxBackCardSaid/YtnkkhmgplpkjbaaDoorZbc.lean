/- What parsed returns. What tx.Parse returns, and what the reader is then. Plain: what is laid is parsed as it was, and what is parsed is laid as just those bytes. Plain: the whole transaction, there and back. Plain: what Parse answers without an error is laid as just the bytes that were taken, and may be put; its errors are two. What stays of a transaction of the program's own making; an append of inputs; a transaction less its witnesses. What tx.sameIn and sameOut return: whether two inputs, two outputs are equal. What tx.sameOut, and slices.EqualFunc over inputs and outputs, return. What tx.Same returns: whether two transactions are equal. What the document's own Check and Witnessed return. What the document's own Lay returns: the bytes of a transaction. What the document's own Lay returns: the bytes of a transaction. -/
import Derived.Test.YtnkkhmgplpkjbaaDoorZba
import Derived.Test.YtnkkhmgplpkjbaaDoorZbb
import Derived.Outline
namespace Go.Proofs.YtnkkhmgplpkjbaaDoor
open Go.RowKit
set_option linter.unusedVariables false
set_option linter.unusedSimpArgs false
set_option maxRecDepth 100000
theorem rIns_short {s : Option (List (BitVec 8))} {k : Nat} (h : Short s k) : Short (rIns s).2.2 k := by
  have key : ∀ (n : Nat) (s : Option (List (BitVec 8))), Short s k → Short (rN n s).2.2 k := by
    intro n
    induction n with
    | zero => exact fun s h => h
    | succ n ih =>
      intro s h
      by_cases h0 : rInE s = 0
      · simp only [rN, h0, if_true]; exact ih _ (rInS_short h)
      · simp only [rN, h0, if_false]; exact rInS_short h
  unfold rIns
  split
  · exact key _ _ (gS_short h)
  · exact gS_short h
theorem rIns_len (s : Option (List (BitVec 8))) : (rIns s).2.1.length ≤ 16 := by
  have key : ∀ (n : Nat) (s : Option (List (BitVec 8))), (rN n s).2.1.length ≤ n := by
    intro n
    induction n with
    | zero => exact fun s => Nat.le_refl _
    | succ n ih =>
      intro s
      by_cases h0 : rInE s = 0
      · simp only [rN, h0, if_true, List.length_cons]; exact Nat.succ_le_succ (ih _)
      · simp only [rN, h0, if_false]; exact Nat.zero_le _
  unfold rIns
  split
  · rename_i h; exact Nat.le_trans (key _ _) (pE0 h)
  · exact Nat.zero_le _
theorem rOuts_short {s : Option (List (BitVec 8))} {k : Nat} (h : Short s k) : Short (rOuts s).2.2 k := by
  have key : ∀ (n : Nat) (s : Option (List (BitVec 8))), Short s k → Short (rO n s).2.2 k := by
    intro n
    induction n with
    | zero => exact fun s h => h
    | succ n ih =>
      intro s h
      by_cases h0 : tE (numS s 8) 128 = 0
      · simp only [rO, h0, if_true]; exact ih _ (tS_short (numS_short h _) _)
      · simp only [rO, h0, if_false]; exact tS_short (numS_short h _) _
  unfold rOuts
  split
  · exact key _ _ (gS_short h)
  · exact gS_short h
theorem rOuts_len (s : Option (List (BitVec 8))) : (rOuts s).2.1.length ≤ 16 := by
  have key : ∀ (n : Nat) (s : Option (List (BitVec 8))), (rO n s).2.1.length ≤ n := by
    intro n
    induction n with
    | zero => exact fun s => Nat.le_refl _
    | succ n ih =>
      intro s
      by_cases h0 : tE (numS s 8) 128 = 0
      · simp only [rO, h0, if_true, List.length_cons]; exact Nat.succ_le_succ (ih _)
      · simp only [rO, h0, if_false]; exact Nat.zero_le _
  unfold rOuts
  split
  · rename_i h; exact Nat.le_trans (key _ _) (pE0 h)
  · exact Nat.zero_le _
/-- Within parsed: the reader, the result's block, the transaction's block. -/
structure PS (w W : World) (B : Nat) (p : Option Nat) (rv tb : Nat) (V : List Value) (s : Option (List (BitVec 8))) : Prop where
  rd : IsR W B p s
  gr : w.grownBy W p
  rvb : Blk W rv 26 [.int .u32 0, .slice none 0 0, .slice none 0 0, .int .u32 0]
  tbb : Blk W tb 26 V
  ne : rv ≠ tb
  rn : w.heap.size ≤ rv
  tn : w.heap.size ≤ tb
  hB : B ≤ W.heap.size
theorem PS.call {w W W' : World} {B rv tb : Nat} {p : Option Nat} {V : List Value} {s s' : Option (List (BitVec 8))} (h : PS w W B p rv tb V s) (hi : IsR W' B p s') (hg : W.grownBy W' p) : PS w W' B p rv tb V s' :=
  ⟨hi, grown_trans h.gr hg, h.rvb.grown hg (h.rd.ne h.rvb (by decide)), h.tbb.grown hg (h.rd.ne h.tbb (by decide)), h.ne, h.rn, h.tn, Nat.le_trans h.hB hg.size⟩
theorem PS.same {w W W' : World} {B rv tb : Nat} {p : Option Nat} {V : List Value} {s : Option (List (BitVec 8))} (h : PS w W B p rv tb V s) (hb : Below W.heap.size W W') : PS w W' B p rv tb V s :=
  h.call (h.rd.below hb h.hB) ⟨hb.os, hb.tape, hb.output, hb.size, fun k hk _ => hb.block k hk⟩
theorem PS.set {w W : World} {B rv tb : Nat} {p : Option Nat} {V : List Value} {s : Option (List (BitVec 8))} (h : PS w W B p rv tb V s) (o : Nat) (v : Value) : PS w (W.setCell ⟨tb, o, none⟩ v) B p rv tb (V.set o v) s :=
  ⟨h.rd.store h.tbb (by decide) (by decide) _ _, Fr.grown h.gr (Fr.store _ _ _ _ _) h.tn, h.rvb.other (by exact h.ne) v, h.tbb.set _ _, h.ne, h.rn, h.tn, Nat.le_trans h.hB (Fr.store W p tb o v).size⟩
theorem PS.fr {w W W' : World} {B rv tb b : Nat} {p : Option Nat} {V us : List Value} {s s' : Option (List (BitVec 8))} (h : PS w W B p rv tb V s) (hi : IsR W' B p s') (hf : Fr W W' p (some b)) (hb : Blk W b 57 us) (hn : w.heap.size ≤ b) : PS w W' B p rv tb V s' :=
  ⟨hi, Fr.grown h.gr hf hn, h.rvb.fr hf (h.rd.ne h.rvb (by decide)) (fun e => by injection e with e; exact h.rvb.apart hb (by decide) e), h.tbb.fr hf (h.rd.ne h.tbb (by decide)) (fun e => by injection e with e; exact h.tbb.apart hb (by decide) e), h.ne, h.rn, h.tn, Nat.le_trans h.hB hf.size⟩
theorem info26 : (Tryd.prog.info? 26).map (·.size) = some 4 := by kernel_rfl
theorem PS.fin {w W W' : World} {B rv tb : Nat} {p : Option Nat} {V : List Value} {s : Option (List (BitVec 8))} {a b c d : Value} (h : PS w W B p rv tb V s) (e : (((W.setCell ⟨rv, 0, none⟩ a).setCell ⟨rv, 1, none⟩ b).setCell ⟨rv, 2, none⟩ c).setCell ⟨rv, 3, none⟩ d = W') :
    Blk W' rv 26 [a, b, c, d] ∧ IsR W' B p s ∧ w.grownBy W' p ∧ Fr W W' p (some rv) := by
  have e' : W.setCells rv 0 [a, b, c, d] = W' := e
  rw [← e']
  have hf := Fr.stores W p rv [a, b, c, d] 0 W (Fr.refl _ _ _)
  exact ⟨h.rvb.setCells [a, b, c, d] rfl, IsR.stores (by decide) (by decide) [a, b, c, d] 0 W _ h.rvb h.rd, Fr.grown h.gr hf h.rn, hf⟩
/-- The inputs xs lie in block ib, the outputs ys in block ob. -/
def Rd1 (W : World) (ib : Nat) (xs : List TIn) : Prop := ∃ vs, InsW W xs vs ∧ Blk W ib 57 vs
def Rd2 (W : World) (ob : Nat) (ys : List TOut) : Prop := ∃ us, OutsN W us ys ∧ Blk W ob 43 us
theorem Rd1.fr {W W' : World} {ib B b : Nat} {p : Option Nat} {s : Option (List (BitVec 8))} {T : TypeId} {us : List Value} {xs : List TIn} (h : Rd1 W ib xs) (hR : IsR W B p s) (hb : Blk W b T us) (hT : T ≠ 5) (hT2 : T ≠ 27) (hT3 : T ≠ 57) (hf : Fr W W' p (some b)) : Rd1 W' ib xs := by
  obtain ⟨vs, h1, h2⟩ := h
  exact ⟨vs, InsW.fr hR hb hT hT2 hf h1, h2.fr hf (hR.ne h2 (by decide)) (fun e => by injection e with e; exact h2.apart hb (fun e => hT3 e.symm) e)⟩
theorem Rd2.fr {W W' : World} {ob B b : Nat} {p : Option Nat} {s : Option (List (BitVec 8))} {T : TypeId} {us : List Value} {ys : List TOut} (h : Rd2 W ob ys) (hR : IsR W B p s) (hb : Blk W b T us) (hT : T ≠ 5) (hT3 : T ≠ 43) (hf : Fr W W' p (some b)) : Rd2 W' ob ys := by
  obtain ⟨vs, h1, h2⟩ := h
  exact ⟨vs, h1.fr hR hb hT hf, h2.fr hf (hR.ne h2 (by decide)) (fun e => by injection e with e; exact h2.apart hb (fun e => hT3 e.symm) e)⟩
theorem Rd1.tx {W : World} {ib ob k1 k2 v l : Nat} {xs : List TIn} {ys : List TOut} (h : Rd1 W ib xs) (h2 : Rd2 W ob ys) (hx : ∀ x ∈ xs, OkIn x ∧ x.wt.length ≤ 1000000) (hy : ∀ y ∈ ys, OkOut y) (e1 : xs.length = k1) (e2 : ys.length = k2) (l1 : k1 ≤ 16) (l2 : k2 ≤ 16) (hv : v < 4294967296) (hl : l < 4294967296) :
    TxOk W W.heap.size ⟨v, xs, ys, l⟩ (.slice (some ⟨ib, 0, none⟩) k1 k1) (.slice (some ⟨ob, 0, none⟩) k2 k2) := by
  obtain ⟨vs, a, b⟩ := h
  obtain ⟨us, c, d⟩ := h2
  exact ⟨a.is b hx e1 (by omega), c.os d hy e2 (by omega), hv, hl⟩
/-- A transaction of the program's own making. -/
def TxN (w : World) (t : TTx) (i o : Value) : Prop := ∃ ib ob, i = .slice (some ⟨ib, 0, none⟩) t.ins.length t.ins.length ∧ o = .slice (some ⟨ob, 0, none⟩) t.outs.length t.outs.length ∧ Rd1 w ib t.ins ∧ Rd2 w ob t.outs ∧ (∀ x ∈ t.ins, OkIn x ∧ x.wt.length ≤ 1000000) ∧ (∀ y ∈ t.outs, OkOut y) ∧ t.ins.length ≤ 16 ∧ t.outs.length ≤ 16 ∧ t.ver < 4294967296 ∧ t.lock < 4294967296
theorem TxN.ok {w : World} {t : TTx} {i o : Value} (h : TxN w t i o) : TxOk w w.heap.size t i o := by
  obtain ⟨ib, ob, rfl, rfl, a, b, c, d, e, f, g, k⟩ := h
  exact Rd1.tx a b c d rfl rfl e f g k
theorem TxN.fr {w w' : World} {t : TTx} {i o : Value} {B b : Nat} {p : Option Nat} {s : Option (List (BitVec 8))} {us : List Value} (h : TxN w t i o) (hR : IsR w B p s) (hb : Blk w b 26 us) (hf : Fr w w' p (some b)) : TxN w' t i o := by
  obtain ⟨ib, ob, e1, e2, a, b', r⟩ := h
  exact ⟨ib, ob, e1, e2, a.fr hR hb (by decide) (by decide) (by decide) hf, b'.fr hR hb (by decide) (by decide) hf, r⟩
def ParsedPost (r : Int × TTx × Option (List (BitVec 8))) (B : Nat) (p : Option Nat) (w : World) (e : Ending) (w' : World) : Prop :=
  ∃ V L A1 n1 c1 A2 n2 c2 c, e = .returned (.tuple #[.agg #[.int .u32 V, .slice A1 n1 c1, .slice A2 n2 c2, .int .u32 L], .int .i64 c]) ∧ r.1 = c ∧ IsR w' B p r.2.2 ∧ w.grownBy w' p ∧ (c = 0 → V = (r.2.1.ver : Int) ∧ L = (r.2.1.lock : Int) ∧ TxN w' r.2.1 (.slice A1 n1 c1) (.slice A2 n2 c2))
theorem rI_n : ∀ (n : Nat) (s : Option (List (BitVec 8))), (rI n s).2.1.length ≤ n
  | 0, s => Nat.le_refl _
  | n + 1, s => by
    by_cases h0 : tE s 128 = 0
    · simp only [rI, h0, if_true, List.length_cons]; exact Nat.succ_le_succ (rI_n n _)
    · simp only [rI, h0, if_false]; exact Nat.zero_le _
theorem rW_n (s : Option (List (BitVec 8))) : (rW s).2.1.length ≤ 8 := by
  unfold rW
  split
  · rename_i h; exact Nat.le_trans (rI_n _ _) (gE_ne s 8 h)
  · exact Nat.zero_le _
theorem rX_n : ∀ (n : Nat) (s : Option (List (BitVec 8))), ∀ L ∈ (rX n s).2.1, L.length ≤ 8
  | 0, s, L, hL => by simp [rX] at hL
  | n + 1, s, L, hL => by
    by_cases h0 : (rW s).1 = 0
    · simp only [rX, h0, if_true] at hL
      rcases List.mem_cons.1 hL with rfl | hL
      · exact rW_n s
      · exact rX_n n _ L hL
    · simp only [rX, h0, if_false] at hL
      cases hL
theorem rX_short {k : Nat} : ∀ (n : Nat) (s : Option (List (BitVec 8))), Short s k → Short (rX n s).2.2 k
  | 0, _, h => h
  | n + 1, s, h => by
    by_cases h0 : (rW s).1 = 0
    · simp only [rX, h0, if_true]; exact rX_short n _ (rW_short h)
    · simp only [rX, h0, if_false]; exact rW_short h
theorem wW_wt : ∀ (xs : List TIn) (Ls : List (List (List (BitVec 8)))) (k : Nat), (∀ L ∈ Ls, L.length ≤ k) → ∀ x ∈ wW xs Ls, x.wt.length ≤ k
  | [], _, _, _, x, hx => by simp [wW] at hx
  | _ :: _, [], _, _, x, hx => by simp [wW] at hx
  | y :: ys, L :: Ls, k, h, x, hx => by
    have hx : x ∈ (⟨y.tx, y.ix, y.sc, y.sq, L⟩ : TIn) :: wW ys Ls := hx
    rcases List.mem_cons.1 hx with rfl | hx
    · exact h L (by simp)
    · exact wW_wt ys Ls k (fun z hz => h z (by simp [hz])) x hx
theorem grown_below' {w w' : World} (p : Option Nat) (hb : Below w.heap.size w w') : w.grownBy w' p := ⟨hb.os, hb.tape, hb.output, hb.size, fun k hk _ => hb.block k hk⟩
set_option maxHeartbeats 4000000 in
theorem parsed_no (p : Option Nat) (s : Option (List (BitVec 8))) (B : Nat) (w : World) (h : IsR w B p s) (hB : B ≤ w.heap.size) (hl : Short s 100000000) (hm : rM (numS s 4) = false) :
    Calls Tryd.prog 40 #[ptr p] w (ParsedPost (rT1 (numV s 4) false (numS s 4)) B p w) := by
  obtain ⟨q, hP⟩ : ∃ q, Value.pointer q = ptr p := ⟨_, rfl⟩
  have hW : Below w.heap.size w (w.alloc (.cells #[.int .u32 0, .slice none 0 0, .slice none 0 0, .int .u32 0] 26)) := (Below.refl _ _).alloc (Nat.le_refl _) _
  have hA := h.below hW hB
  have hv := Blk.new w 26 #[.int .u32 0, .slice none 0 0, .slice none 0 0, .int .u32 0]
  have HV := Lib.hid hv
  have HB := Lib.hid hB
  have HW := Lib.hid hW
  have HNv := Lib.hid (hA.ne hv (by decide))
  obtain ⟨n4, hn4⟩ : ∃ n, n = numV s 4 := ⟨_, rfl⟩
  have h4 := numV_4 s
  have K1 := Lib.hid (num_any p s 4 B _ hA (Nat.le_trans hB hW.size))
  obtain ⟨s1, hs1⟩ : ∃ s', s' = numS s 4 := ⟨_, rfl⟩
  have hl1 : Short s1 100000000 := by rw [hs1]; exact numS_short hl _
  rw [← hn4] at K1 h4 ⊢
  rw [← hs1] at K1 hm ⊢
  have hw4 : IntKind.u32.wrap (n4 : Int) = (n4 : Int) := by rw [IntKind.wrap_u32]; omega
  have K2 : Hid (∀ wq, IsR wq B p s1 → B ≤ wq.heap.size → Calls Tryd.prog 59 #[.pointer q, .int .i64 2] wq (NewPost (takeL s1 2) s1 B p wq)) := fun wq hq hBq => by rw [hP]; exact peek_any p s1 2 B wq hq hBq hl1
  have hl2 : Short s1 100000000 := hl1
  obtain ⟨X, hX⟩ : ∃ X, X = takeL s1 2 := ⟨_, rfl⟩
  have hmk : ((strB X).toList == ([0, 1] : List UInt8)) = false := by rw [mark_beq, hX]; exact hm
  rw [← hX] at K2
  have K3 : Hid (∀ wq, IsR wq B p s1 → B ≤ wq.heap.size → Calls Tryd.prog 61 #[.pointer q] wq (InsOut (rIns s1) B p wq)) := fun wq hq hBq => by rw [hP]; exact parsedIns_any p s1 B wq hq hBq hl2
  have HI1 := Lib.hid (rIns_ok s1)
  have HL3 := Lib.hid (rIns_short hl2)
  have HN3 := Lib.hid (rIns_len s1)
  have ht1 : rT1 n4 false s1 = if (rIns s1).1 = 0 then rT2 n4 false (rIns s1).2.1 (rIns s1).2.2 else ((rIns s1).1, ⟨n4, [], [], 0⟩, (rIns s1).2.2) := rfl
  obtain ⟨rt, hrt⟩ : ∃ r, r = rT1 n4 false s1 := ⟨_, rfl⟩
  rw [← hrt] at ht1 ⊢
  obtain ⟨ri, hri⟩ : ∃ r, r = rIns s1 := ⟨_, rfl⟩
  rw [← hri] at K3 HI1 HL3 HN3 ht1
  have HRT := Lib.hid ht1
  have H4 := Lib.hid h4
  rw [← hP] at K1 ⊢
  have HP := Lib.hid hP
  have Hm := Lib.hid hmk
  clear h hB hl hP hA hv hW hn4 hs1 hl1 hl2 hm hX hri ht1 hrt hmk
  go_enter Tryd.func40, Tryd.ntmps40
  go_upto_region 2 with (go_at_call 58; (with_reducible refine K1.out.mono ?_); rintro e w1 ⟨rfl, hi, hg⟩; dsimp only)
  have hPS : PS w (w1.alloc (.cells #[.int .u32 (n4 : Int), .slice none 0 0, .slice none 0 0, .int .u32 0] 26)) B p w.heap.size w1.heap.size [.int .u32 (n4 : Int), .slice none 0 0, .slice none 0 0, .int .u32 0] s1 := by
    have hs1 : w.heap.size < w1.heap.size := Nat.lt_of_lt_of_le HV.out.lt hg.size
    have hbw : Below w1.heap.size w1 (w1.alloc (.cells #[.int .u32 (n4 : Int), .slice none 0 0, .slice none 0 0, .int .u32 0] 26)) := (Below.refl _ _).alloc (Nat.le_refl _) _
    have hB1 : B ≤ w1.heap.size := Nat.le_trans HB.out (by omega)
    exact ⟨hi.below hbw hB1, grown_trans (grown_trans (grown_below' p HW.out) hg) (grown_below' p hbw), (HV.out.grown hg HNv.out).alloc _, Blk.new w1 26 #[.int .u32 (n4 : Int), .slice none 0 0, .slice none 0 0, .int .u32 0], by omega, Nat.le_refl _, by omega, Nat.le_trans hB1 hbw.size⟩
  obtain ⟨tb, htb⟩ : ∃ n, n = w1.heap.size := ⟨_, rfl⟩
  generalize (w1.alloc (.cells #[.int .u32 (n4 : Int), .slice none 0 0, .slice none 0 0, .int .u32 0] 26)) = W1 at hPS ⊢
  rw [← htb] at hPS ⊢
  have HPS := Lib.hid hPS
  clear hPS K1 hi hg HV HNv htb HB HW
  have hmk := Hm.out
  go_upto_region 6 with (first
    | (go_at_call 59; go_loud ((with_reducible refine (K2.out _ HPS.out.rd HPS.out.hB).mono ?_); rintro e w2 ⟨v, rfl, ho, hi, hg⟩; obtain ⟨A, cap, rfl, hR, _⟩ := ho.rd; have hcv := conv_n (n := X.length) (c := cap) hR rfl; have HPS2 := Lib.hid (HPS.out.call hi hg); clear ho hi hg hR K2; dsimp only)))
  obtain ⟨HQ, hQe⟩ : ∃ h : Hid (PS w w2 B p w.heap.size tb [.int .u32 (n4 : Int), .slice none 0 0, .slice none 0 0, .int .u32 0] s1), h = HPS2 := ⟨_, rfl⟩
  clear hQe HPS2 hmk hcv HPS
  generalize w2 = W3 at HQ ⊢
  go_upto_region 7 with (go_at_call 61; (with_reducible refine (K3.out _ HQ.out.rd HQ.out.hB).mono ?_); rintro e w4 ⟨A1, k1, c1, ei, rfl, hr, hi, hg, hok⟩; have hq := HQ.out.call hi hg; have d0 := hq.tbb.cell (j := 1) rfl; have f0 := hq.tbb.free 1; have HQ4 := Lib.hid (hq.set 1 (.slice A1 k1 c1)); have HT4 := Lib.hid hq.tbb; have HS4 := Lib.hid (Nat.le_trans HQ.out.gr.size (Nat.le_refl W3.heap.size)); have Hr := Lib.hid hr; have Hok := Lib.hid hok; have HI4 := Lib.hid hi; have HG4 := Lib.hid hg; clear hr hi hg hok hq K3; dsimp only)
  have HZ : Hid (ri.1 = ei) := Hr
  obtain ⟨W4, hW4⟩ : ∃ W, W = w4.setCell ⟨tb, 1, none⟩ (.slice A1 k1 c1) := ⟨_, rfl⟩
  rw [← hW4] at HQ4 ⊢
  have HW4 := Lib.hid hW4
  clear hW4 d0 f0
  by_cases hc : ei = 0
  rotate_left
  · have hcb : (ei != 0) = true := by simpa using hc
    have cc0 := HQ4.out.tbb.cell (j := 0) rfl
    have cc1 := HQ4.out.tbb.cell (j := 1) rfl
    have cc2 := HQ4.out.tbb.cell (j := 2) rfl
    have cc3 := HQ4.out.tbb.cell (j := 3) rfl
    have d0 := HQ4.out.rvb.cell (j := 0) rfl
    have d1 := HQ4.out.rvb.cell (j := 1) rfl
    have d2 := HQ4.out.rvb.cell (j := 2) rfl
    have d3 := HQ4.out.rvb.cell (j := 3) rfl
    have f0 := HQ4.out.rvb.free 0
    have f1 := HQ4.out.rvb.free 1
    have f2 := HQ4.out.rvb.free 2
    have f3 := HQ4.out.rvb.free 3
    go_wp2_with fail
    generalize hW9 : (((W4.setCell ⟨w.heap.size, 0, none⟩ (.int .u32 (n4 : Int))).setCell ⟨w.heap.size, 1, none⟩ (.slice A1 k1 c1)).setCell ⟨w.heap.size, 2, none⟩ (.slice none 0 0)).setCell ⟨w.heap.size, 3, none⟩ (.int .u32 0) = W9
    obtain ⟨g1, g2, g3, g4⟩ := HQ4.out.fin hW9
    have hlv := run_loadVar_mid (P := Tryd.prog) W9 w.heap.size 0 26 _ _ g1.range Tryd.underlying26 rfl info26
    have ert := HRT.out
    rw [HZ.out, if_neg hc] at ert
    exact bodyPost_ret (v := .tuple #[.agg #[.int .u32 (n4 : Int), .slice A1 k1 c1, .slice none 0 0, .int .u32 0], .int .i64 ei]) (by simp [results, Tryd.results40, asAddr, hlv]) rfl ⟨_, _, _, _, _, _, _, _, _, rfl, by rw [ert], by rw [ert]; exact g2, g3, fun h => absurd h hc⟩
  subst hc
  obtain ⟨ib, vs, rfl, hn1, hcp, hIN, hbI, hib⟩ := Hok.out rfl
  subst c1
  have ht1 := HRT.out
  rw [HZ.out, if_pos rfl] at ht1
  have hR1 : Rd1 W4 ib ri.2.1 := by
    rw [HW4.out]
    exact Rd1.fr ⟨vs, hIN.w (fun x hx => (HI1.out x hx).2), hbI⟩ HI4.out HT4.out (by decide) (by decide) (by decide) (Fr.store _ _ _ _ _)
  have hib2 : w.heap.size ≤ ib := Nat.le_trans HS4.out hib
  clear hIN hbI hib HRT Hok HZ Hr HI4 HT4 HG4 HW4 HS4
  obtain ⟨xs, hxs⟩ : ∃ x, x = ri.2.1 := ⟨_, rfl⟩
  obtain ⟨s3, hs3⟩ : ∃ x, x = ri.2.2 := ⟨_, rfl⟩
  rw [← hxs] at HI1 HN3 hn1 ht1 hR1
  rw [← hs3] at HL3 HQ4 ht1
  clear hxs hs3
  have K5 : Hid (∀ wq, IsR wq B p s3 → B ≤ wq.heap.size → Calls Tryd.prog 62 #[.pointer q] wq (OutsOut (rOuts s3) B p wq)) := fun wq hq hBq => by rw [HP.out]; exact parsedOuts_any p s3 B wq hq hBq HL3.out
  have HO1 := Lib.hid (rOuts_ok s3)
  have HL5 := Lib.hid (rOuts_short HL3.out)
  have HN5 := Lib.hid (rOuts_len s3)
  have ht2 : rt = if (rOuts s3).1 = 0 then rT3 n4 false xs (rOuts s3).2.1 (rOuts s3).2.2 else ((rOuts s3).1, ⟨n4, xs, [], 0⟩, (rOuts s3).2.2) := ht1
  obtain ⟨ro, hro⟩ : ∃ r, r = rOuts s3 := ⟨_, rfl⟩
  rw [← hro] at K5 HO1 HL5 HN5 ht2
  have HRT := Lib.hid ht2
  have HR1 := Lib.hid hR1
  have HE1 := Lib.hid hn1
  have HIB := Lib.hid hib2
  have hcb : ((0 : Int) != 0) = false := by decide
  clear hro ht1 ht2 hR1 hn1 hib2 HL3
  go_upto_region 10 with (go_at_call 62; (with_reducible refine (K5.out _ HQ4.out.rd HQ4.out.hB).mono ?_); rintro e w5 ⟨A2, k2, c2, eo, rfl, hr, hi, hg, hok⟩; have hq := HQ4.out.call hi hg; have d0 := hq.tbb.cell (j := 2) rfl; have f0 := hq.tbb.free 2; have HQ5 := Lib.hid (hq.set 2 (.slice A2 k2 c2)); have HT5 := Lib.hid hq.tbb; have Hr := Lib.hid hr; have Hok := Lib.hid hok; have HI5 := Lib.hid hi; have HR5 := Lib.hid (Rd1.fr HR1.out HQ4.out.rd HQ4.out.tbb (by decide) (by decide) (by decide) (Fr.of_grown hg (some tb))); clear hr hi hg hok hq K5; dsimp only)
  have HZ : Hid (ro.1 = eo) := Hr
  obtain ⟨W5, hW5⟩ : ∃ W, W = w5.setCell ⟨tb, 2, none⟩ (.slice A2 k2 c2) := ⟨_, rfl⟩
  rw [← hW5] at HQ5 ⊢
  have HW5 := Lib.hid hW5
  clear hW5 d0 f0 hcb
  by_cases hc : eo = 0
  rotate_left
  · have hcb : (eo != 0) = true := by simpa using hc
    have cc0 := HQ5.out.tbb.cell (j := 0) rfl
    have cc1 := HQ5.out.tbb.cell (j := 1) rfl
    have cc2 := HQ5.out.tbb.cell (j := 2) rfl
    have cc3 := HQ5.out.tbb.cell (j := 3) rfl
    have d0 := HQ5.out.rvb.cell (j := 0) rfl
    have d1 := HQ5.out.rvb.cell (j := 1) rfl
    have d2 := HQ5.out.rvb.cell (j := 2) rfl
    have d3 := HQ5.out.rvb.cell (j := 3) rfl
    have f0 := HQ5.out.rvb.free 0
    have f1 := HQ5.out.rvb.free 1
    have f2 := HQ5.out.rvb.free 2
    have f3 := HQ5.out.rvb.free 3
    go_wp2_with fail
    generalize hW9 : (((W5.setCell ⟨w.heap.size, 0, none⟩ (.int .u32 (n4 : Int))).setCell ⟨w.heap.size, 1, none⟩ (.slice (some ⟨ib, 0, none⟩) k1 k1)).setCell ⟨w.heap.size, 2, none⟩ (.slice A2 k2 c2)).setCell ⟨w.heap.size, 3, none⟩ (.int .u32 0) = W9
    obtain ⟨g1, g2, g3, g4⟩ := HQ5.out.fin hW9
    have hlv := run_loadVar_mid (P := Tryd.prog) W9 w.heap.size 0 26 _ _ g1.range Tryd.underlying26 rfl info26
    have ert := HRT.out
    rw [HZ.out, if_neg hc] at ert
    exact bodyPost_ret (v := .tuple #[.agg #[.int .u32 (n4 : Int), .slice (some ⟨ib, 0, none⟩) k1 k1, .slice A2 k2 c2, .int .u32 0], .int .i64 eo]) (by simp [results, Tryd.results40, asAddr, hlv]) rfl ⟨_, _, _, _, _, _, _, _, _, rfl, by rw [ert], by rw [ert]; exact g2, g3, fun h => absurd h hc⟩
  subst hc
  obtain ⟨ob, us, rfl, hn2, hcp, hON, hbO, hob⟩ := Hok.out rfl
  subst c2
  have ht1 := HRT.out
  rw [HZ.out, if_pos rfl] at ht1
  have hR1 : Rd1 W5 ib xs := by
    rw [HW5.out]
    exact Rd1.fr HR5.out HI5.out HT5.out (by decide) (by decide) (by decide) (Fr.store _ _ _ _ _)
  have hR2 : Rd2 W5 ob ro.2.1 := by
    rw [HW5.out]
    exact Rd2.fr ⟨us, hON, hbO⟩ HI5.out HT5.out (by decide) (by decide) (Fr.store _ _ _ _ _)
  clear hON hbO hob HRT Hok HZ Hr HI5 HT5 HW5 HR5 HR1 HQ4
  obtain ⟨ys, hys⟩ : ∃ x, x = ro.2.1 := ⟨_, rfl⟩
  obtain ⟨s4, hs4⟩ : ∃ x, x = ro.2.2 := ⟨_, rfl⟩
  rw [← hys] at HO1 HN5 hn2 ht1 hR2
  rw [← hs4] at HL5 HQ5 ht1
  clear hys hs4
  have HR1 := Lib.hid hR1
  have HR2 := Lib.hid hR2
  have HE2 := Lib.hid hn2
  have HRT := Lib.hid ht1
  have hcb : ((0 : Int) != 0) = false := by decide
  have HE : Hid ([Value.int .u32 (n4 : Int), .slice (some ⟨ib, 0, none⟩) k1 k1, .slice (some ⟨ob, 0, none⟩) k2 k2, .int .u32 0] = (([Value.int .u32 (n4 : Int), .slice none 0 0, .slice none 0 0, .int .u32 0].set 1 (.slice (some ⟨ib, 0, none⟩) k1 k1)).set 2 (.slice (some ⟨ob, 0, none⟩) k2 k2))) := rfl
  rw [← HE.out] at HQ5
  clear HE hR1 hR2 hn2 ht1
  have KL : Hid (∀ wq, IsR wq B p s4 → B ≤ wq.heap.size → Calls Tryd.prog 58 #[.pointer q, .int .i64 4] wq (NumPost (numV s4 4) (numS s4 4) B p wq)) := fun wq hq hBq => by rw [HP.out]; exact num_any p s4 4 B wq hq hBq
  have h8 := numV_4 s4
  obtain ⟨n8, hn8⟩ : ∃ n, n = numV s4 4 := ⟨_, rfl⟩
  obtain ⟨s9, hs9⟩ : ∃ x, x = numS s4 4 := ⟨_, rfl⟩
  rw [← hn8] at KL h8
  rw [← hs9] at KL
  have HN8 := Lib.hid hn8
  have HS9 := Lib.hid hs9
  have H8 := Lib.hid h8
  have hw8 : IntKind.u32.wrap (n8 : Int) = (n8 : Int) := by rw [IntKind.wrap_u32]; omega
  clear hn8 hs9 h8
  go_upto_region 19 with (go_at_call 58; (with_reducible refine (KL.out _ HQ5.out.rd HQ5.out.hB).mono ?_); rintro e w8 ⟨rfl, hi, hg⟩; have hq := HQ5.out.call hi hg; have d0 := hq.tbb.cell (j := 3) rfl; have f0 := hq.tbb.free 3; have HQ8 := Lib.hid (hq.set 3 (.int .u32 (n8 : Int))); have HI8 := Lib.hid hi; have HT8 := Lib.hid hq.tbb; have HA8 := Lib.hid (Rd1.fr HR1.out HQ5.out.rd HQ5.out.tbb (by decide) (by decide) (by decide) (Fr.of_grown hg (some tb))); have HB8 := Lib.hid (Rd2.fr HR2.out HQ5.out.rd HQ5.out.tbb (by decide) (by decide) (Fr.of_grown hg (some tb))); clear hi hg hq KL; dsimp only)
  have hA9 := Rd1.fr HA8.out HI8.out HT8.out (by decide) (by decide) (by decide) (Fr.store w8 p tb 3 (.int .u32 (n8 : Int)))
  have hB9 := Rd2.fr HB8.out HI8.out HT8.out (by decide) (by decide) (Fr.store w8 p tb 3 (.int .u32 (n8 : Int)))
  clear HA8 HB8 HI8 HT8
  generalize w8.setCell ⟨tb, 3, none⟩ (.int .u32 (n8 : Int)) = W8 at HQ8 hA9 hB9 ⊢
  have HA9 := Lib.hid hA9
  have HB9 := Lib.hid hB9
  clear hA9 hB9 d0 f0
  have cc0 := HQ8.out.tbb.cell (j := 0) rfl
  have cc1 := HQ8.out.tbb.cell (j := 1) rfl
  have cc2 := HQ8.out.tbb.cell (j := 2) rfl
  have cc3 := HQ8.out.tbb.cell (j := 3) rfl
  have d0 := HQ8.out.rvb.cell (j := 0) rfl
  have d1 := HQ8.out.rvb.cell (j := 1) rfl
  have d2 := HQ8.out.rvb.cell (j := 2) rfl
  have d3 := HQ8.out.rvb.cell (j := 3) rfl
  have f0 := HQ8.out.rvb.free 0
  have f1 := HQ8.out.rvb.free 1
  have f2 := HQ8.out.rvb.free 2
  have f3 := HQ8.out.rvb.free 3
  go_wp2_with fail
  generalize hW9 : (((W8.setCell ⟨w.heap.size, 0, none⟩ (.int .u32 (n4 : Int))).setCell ⟨w.heap.size, 1, none⟩ (.slice (some ⟨ib, 0, none⟩) k1 k1)).setCell ⟨w.heap.size, 2, none⟩ (.slice (some ⟨ob, 0, none⟩) k2 k2)).setCell ⟨w.heap.size, 3, none⟩ (.int .u32 (n8 : Int)) = W9
  obtain ⟨g1, g2, g3, g4⟩ := HQ8.out.fin hW9
  have hlv := run_loadVar_mid (P := Tryd.prog) W9 w.heap.size 0 26 _ _ g1.range Tryd.underlying26 rfl info26
  have ert : rt = (0, ⟨n4, xs, ys, n8⟩, s9) := by rw [HN8.out, HS9.out]; exact HRT.out
  have hA := Rd1.fr HA9.out HQ8.out.rd HQ8.out.rvb (by decide) (by decide) (by decide) g4
  have hB := Rd2.fr HB9.out HQ8.out.rd HQ8.out.rvb (by decide) (by decide) g4
  have hTX : TxN W9 ⟨n4, xs, ys, n8⟩ (.slice (some ⟨ib, 0, none⟩) k1 k1) (.slice (some ⟨ob, 0, none⟩) k2 k2) := ⟨ib, ob, by rw [← HE1.out], by rw [← HE2.out], hA, hB, (fun x hx => ⟨(HI1.out x hx).1, by rw [(HI1.out x hx).2]; exact Nat.zero_le _⟩), HO1.out, HN3.out, HN5.out, H4.out, H8.out⟩
  exact bodyPost_ret (v := .tuple #[.agg #[.int .u32 (n4 : Int), .slice (some ⟨ib, 0, none⟩) k1 k1, .slice (some ⟨ob, 0, none⟩) k2 k2, .int .u32 (n8 : Int)], .int .i64 0]) (by simp [results, Tryd.results40, asAddr, hlv]) rfl ⟨_, _, _, _, _, _, _, _, _, rfl, by rw [ert], by rw [ert]; exact g2, g3, fun _ => by rw [ert]; exact ⟨rfl, rfl, hTX⟩⟩
set_option maxHeartbeats 4000000 in
theorem parsed_yes (p : Option Nat) (s : Option (List (BitVec 8))) (B : Nat) (w : World) (h : IsR w B p s) (hB : B ≤ w.heap.size) (hl : Short s 100000000) (hm : rM (numS s 4) = true) :
    Calls Tryd.prog 40 #[ptr p] w (ParsedPost (rT1 (numV s 4) true (cutS (numS s 4) 2)) B p w) := by
  obtain ⟨q, hP⟩ : ∃ q, Value.pointer q = ptr p := ⟨_, rfl⟩
  have hW : Below w.heap.size w (w.alloc (.cells #[.int .u32 0, .slice none 0 0, .slice none 0 0, .int .u32 0] 26)) := (Below.refl _ _).alloc (Nat.le_refl _) _
  have hA := h.below hW hB
  have hv := Blk.new w 26 #[.int .u32 0, .slice none 0 0, .slice none 0 0, .int .u32 0]
  have HV := Lib.hid hv
  have HB := Lib.hid hB
  have HW := Lib.hid hW
  have HNv := Lib.hid (hA.ne hv (by decide))
  obtain ⟨n4, hn4⟩ : ∃ n, n = numV s 4 := ⟨_, rfl⟩
  have h4 := numV_4 s
  have K1 := Lib.hid (num_any p s 4 B _ hA (Nat.le_trans hB hW.size))
  obtain ⟨s1, hs1⟩ : ∃ s', s' = numS s 4 := ⟨_, rfl⟩
  have hl1 : Short s1 100000000 := by rw [hs1]; exact numS_short hl _
  rw [← hn4] at K1 h4 ⊢
  rw [← hs1] at K1 hm ⊢
  have hw4 : IntKind.u32.wrap (n4 : Int) = (n4 : Int) := by rw [IntKind.wrap_u32]; omega
  have K2 : Hid (∀ wq, IsR wq B p s1 → B ≤ wq.heap.size → Calls Tryd.prog 59 #[.pointer q, .int .i64 2] wq (NewPost (takeL s1 2) s1 B p wq)) := fun wq hq hBq => by rw [hP]; exact peek_any p s1 2 B wq hq hBq hl1
  have K60 : Hid (∀ wq, IsR wq B p s1 → B ≤ wq.heap.size → Calls Tryd.prog 60 #[.pointer q, .int .i64 2] wq (NewPost (takeL s1 2) (cutS s1 2) B p wq)) := fun wq hq hBq => by rw [hP]; exact take_any p s1 2 B wq hq hBq hl1
  have hl2 : Short (cutS s1 2) 100000000 := cutS_short hl1 _
  obtain ⟨X, hX⟩ : ∃ X, X = takeL s1 2 := ⟨_, rfl⟩
  have hmk : ((strB X).toList == ([0, 1] : List UInt8)) = true := by rw [mark_beq, hX]; exact hm
  rw [← hX] at K2 K60
  obtain ⟨s2, hs2⟩ : ∃ s', s' = cutS s1 2 := ⟨_, rfl⟩
  rw [← hs2] at K60 hl2 ⊢
  have K3 : Hid (∀ wq, IsR wq B p s2 → B ≤ wq.heap.size → Calls Tryd.prog 61 #[.pointer q] wq (InsOut (rIns s2) B p wq)) := fun wq hq hBq => by rw [hP]; exact parsedIns_any p s2 B wq hq hBq hl2
  have HI1 := Lib.hid (rIns_ok s2)
  have HL3 := Lib.hid (rIns_short hl2)
  have HN3 := Lib.hid (rIns_len s2)
  have ht1 : rT1 n4 true s2 = if (rIns s2).1 = 0 then rT2 n4 true (rIns s2).2.1 (rIns s2).2.2 else ((rIns s2).1, ⟨n4, [], [], 0⟩, (rIns s2).2.2) := rfl
  obtain ⟨rt, hrt⟩ : ∃ r, r = rT1 n4 true s2 := ⟨_, rfl⟩
  rw [← hrt] at ht1 ⊢
  obtain ⟨ri, hri⟩ : ∃ r, r = rIns s2 := ⟨_, rfl⟩
  rw [← hri] at K3 HI1 HL3 HN3 ht1
  have HRT := Lib.hid ht1
  have H4 := Lib.hid h4
  rw [← hP] at K1 ⊢
  have HP := Lib.hid hP
  have Hm := Lib.hid hmk
  clear h hB hl hP hA hv hW hn4 hs1 hl1 hl2 hm hX hri ht1 hrt hmk hs2
  go_enter Tryd.func40, Tryd.ntmps40
  go_upto_region 2 with (go_at_call 58; (with_reducible refine K1.out.mono ?_); rintro e w1 ⟨rfl, hi, hg⟩; dsimp only)
  have hPS : PS w (w1.alloc (.cells #[.int .u32 (n4 : Int), .slice none 0 0, .slice none 0 0, .int .u32 0] 26)) B p w.heap.size w1.heap.size [.int .u32 (n4 : Int), .slice none 0 0, .slice none 0 0, .int .u32 0] s1 := by
    have hs1 : w.heap.size < w1.heap.size := Nat.lt_of_lt_of_le HV.out.lt hg.size
    have hbw : Below w1.heap.size w1 (w1.alloc (.cells #[.int .u32 (n4 : Int), .slice none 0 0, .slice none 0 0, .int .u32 0] 26)) := (Below.refl _ _).alloc (Nat.le_refl _) _
    have hB1 : B ≤ w1.heap.size := Nat.le_trans HB.out (by omega)
    exact ⟨hi.below hbw hB1, grown_trans (grown_trans (grown_below' p HW.out) hg) (grown_below' p hbw), (HV.out.grown hg HNv.out).alloc _, Blk.new w1 26 #[.int .u32 (n4 : Int), .slice none 0 0, .slice none 0 0, .int .u32 0], by omega, Nat.le_refl _, by omega, Nat.le_trans hB1 hbw.size⟩
  obtain ⟨tb, htb⟩ : ∃ n, n = w1.heap.size := ⟨_, rfl⟩
  generalize (w1.alloc (.cells #[.int .u32 (n4 : Int), .slice none 0 0, .slice none 0 0, .int .u32 0] 26)) = W1 at hPS ⊢
  rw [← htb] at hPS ⊢
  have HPS := Lib.hid hPS
  clear hPS K1 hi hg HV HNv htb HB HW
  have hmk := Hm.out
  go_upto_region 6 with (first
    | (go_at_call 59; go_loud ((with_reducible refine (K2.out _ HPS.out.rd HPS.out.hB).mono ?_); rintro e w2 ⟨v, rfl, ho, hi, hg⟩; obtain ⟨A, cap, rfl, hR, _⟩ := ho.rd; have hcv := conv_n (n := X.length) (c := cap) hR rfl; have HPS2 := Lib.hid (HPS.out.call hi hg); clear ho hi hg hR K2; dsimp only))
    | (go_at_call 60; (with_reducible refine (K60.out _ HPS2.out.rd HPS2.out.hB).mono ?_); rintro e w3 ⟨v, rfl, ho, hi, hg⟩; have HPS3 := Lib.hid (HPS2.out.call hi hg); clear ho hi hg K60; dsimp only))
  obtain ⟨HQ, hQe⟩ : ∃ h : Hid (PS w w3 B p w.heap.size tb [.int .u32 (n4 : Int), .slice none 0 0, .slice none 0 0, .int .u32 0] s2), h = HPS3 := ⟨_, rfl⟩
  clear hQe HPS3 HPS2 hmk hcv HPS
  generalize w3 = W3 at HQ ⊢
  go_upto_region 7 with (go_at_call 61; (with_reducible refine (K3.out _ HQ.out.rd HQ.out.hB).mono ?_); rintro e w4 ⟨A1, k1, c1, ei, rfl, hr, hi, hg, hok⟩; have hq := HQ.out.call hi hg; have d0 := hq.tbb.cell (j := 1) rfl; have f0 := hq.tbb.free 1; have HQ4 := Lib.hid (hq.set 1 (.slice A1 k1 c1)); have HT4 := Lib.hid hq.tbb; have HS4 := Lib.hid (Nat.le_trans HQ.out.gr.size (Nat.le_refl W3.heap.size)); have Hr := Lib.hid hr; have Hok := Lib.hid hok; have HI4 := Lib.hid hi; have HG4 := Lib.hid hg; clear hr hi hg hok hq K3; dsimp only)
  have HZ : Hid (ri.1 = ei) := Hr
  obtain ⟨W4, hW4⟩ : ∃ W, W = w4.setCell ⟨tb, 1, none⟩ (.slice A1 k1 c1) := ⟨_, rfl⟩
  rw [← hW4] at HQ4 ⊢
  have HW4 := Lib.hid hW4
  clear hW4 d0 f0
  by_cases hc : ei = 0
  rotate_left
  · have hcb : (ei != 0) = true := by simpa using hc
    have cc0 := HQ4.out.tbb.cell (j := 0) rfl
    have cc1 := HQ4.out.tbb.cell (j := 1) rfl
    have cc2 := HQ4.out.tbb.cell (j := 2) rfl
    have cc3 := HQ4.out.tbb.cell (j := 3) rfl
    have d0 := HQ4.out.rvb.cell (j := 0) rfl
    have d1 := HQ4.out.rvb.cell (j := 1) rfl
    have d2 := HQ4.out.rvb.cell (j := 2) rfl
    have d3 := HQ4.out.rvb.cell (j := 3) rfl
    have f0 := HQ4.out.rvb.free 0
    have f1 := HQ4.out.rvb.free 1
    have f2 := HQ4.out.rvb.free 2
    have f3 := HQ4.out.rvb.free 3
    go_wp2_with fail
    generalize hW9 : (((W4.setCell ⟨w.heap.size, 0, none⟩ (.int .u32 (n4 : Int))).setCell ⟨w.heap.size, 1, none⟩ (.slice A1 k1 c1)).setCell ⟨w.heap.size, 2, none⟩ (.slice none 0 0)).setCell ⟨w.heap.size, 3, none⟩ (.int .u32 0) = W9
    obtain ⟨g1, g2, g3, g4⟩ := HQ4.out.fin hW9
    have hlv := run_loadVar_mid (P := Tryd.prog) W9 w.heap.size 0 26 _ _ g1.range Tryd.underlying26 rfl info26
    have ert := HRT.out
    rw [HZ.out, if_neg hc] at ert
    exact bodyPost_ret (v := .tuple #[.agg #[.int .u32 (n4 : Int), .slice A1 k1 c1, .slice none 0 0, .int .u32 0], .int .i64 ei]) (by simp [results, Tryd.results40, asAddr, hlv]) rfl ⟨_, _, _, _, _, _, _, _, _, rfl, by rw [ert], by rw [ert]; exact g2, g3, fun h => absurd h hc⟩
  subst hc
  obtain ⟨ib, vs, rfl, hn1, hcp, hIN, hbI, hib⟩ := Hok.out rfl
  subst c1
  have ht1 := HRT.out
  rw [HZ.out, if_pos rfl] at ht1
  have hR1 : Rd1 W4 ib ri.2.1 := by
    rw [HW4.out]
    exact Rd1.fr ⟨vs, hIN.w (fun x hx => (HI1.out x hx).2), hbI⟩ HI4.out HT4.out (by decide) (by decide) (by decide) (Fr.store _ _ _ _ _)
  have hib2 : w.heap.size ≤ ib := Nat.le_trans HS4.out hib
  clear hIN hbI hib HRT Hok HZ Hr HI4 HT4 HG4 HW4 HS4
  obtain ⟨xs, hxs⟩ : ∃ x, x = ri.2.1 := ⟨_, rfl⟩
  obtain ⟨s3, hs3⟩ : ∃ x, x = ri.2.2 := ⟨_, rfl⟩
  rw [← hxs] at HI1 HN3 hn1 ht1 hR1
  rw [← hs3] at HL3 HQ4 ht1
  clear hxs hs3
  have K5 : Hid (∀ wq, IsR wq B p s3 → B ≤ wq.heap.size → Calls Tryd.prog 62 #[.pointer q] wq (OutsOut (rOuts s3) B p wq)) := fun wq hq hBq => by rw [HP.out]; exact parsedOuts_any p s3 B wq hq hBq HL3.out
  have HO1 := Lib.hid (rOuts_ok s3)
  have HL5 := Lib.hid (rOuts_short HL3.out)
  have HN5 := Lib.hid (rOuts_len s3)
  have ht2 : rt = if (rOuts s3).1 = 0 then rT3 n4 true xs (rOuts s3).2.1 (rOuts s3).2.2 else ((rOuts s3).1, ⟨n4, xs, [], 0⟩, (rOuts s3).2.2) := ht1
  obtain ⟨ro, hro⟩ : ∃ r, r = rOuts s3 := ⟨_, rfl⟩
  rw [← hro] at K5 HO1 HL5 HN5 ht2
  have HRT := Lib.hid ht2
  have HR1 := Lib.hid hR1
  have HE1 := Lib.hid hn1
  have HIB := Lib.hid hib2
  have hcb : ((0 : Int) != 0) = false := by decide
  clear hro ht1 ht2 hR1 hn1 hib2 HL3
  go_upto_region 10 with (go_at_call 62; (with_reducible refine (K5.out _ HQ4.out.rd HQ4.out.hB).mono ?_); rintro e w5 ⟨A2, k2, c2, eo, rfl, hr, hi, hg, hok⟩; have hq := HQ4.out.call hi hg; have d0 := hq.tbb.cell (j := 2) rfl; have f0 := hq.tbb.free 2; have HQ5 := Lib.hid (hq.set 2 (.slice A2 k2 c2)); have HT5 := Lib.hid hq.tbb; have Hr := Lib.hid hr; have Hok := Lib.hid hok; have HI5 := Lib.hid hi; have HR5 := Lib.hid (Rd1.fr HR1.out HQ4.out.rd HQ4.out.tbb (by decide) (by decide) (by decide) (Fr.of_grown hg (some tb))); clear hr hi hg hok hq K5; dsimp only)
  have HZ : Hid (ro.1 = eo) := Hr
  obtain ⟨W5, hW5⟩ : ∃ W, W = w5.setCell ⟨tb, 2, none⟩ (.slice A2 k2 c2) := ⟨_, rfl⟩
  rw [← hW5] at HQ5 ⊢
  have HW5 := Lib.hid hW5
  clear hW5 d0 f0 hcb
  by_cases hc : eo = 0
  rotate_left
  · have hcb : (eo != 0) = true := by simpa using hc
    have cc0 := HQ5.out.tbb.cell (j := 0) rfl
    have cc1 := HQ5.out.tbb.cell (j := 1) rfl
    have cc2 := HQ5.out.tbb.cell (j := 2) rfl
    have cc3 := HQ5.out.tbb.cell (j := 3) rfl
    have d0 := HQ5.out.rvb.cell (j := 0) rfl
    have d1 := HQ5.out.rvb.cell (j := 1) rfl
    have d2 := HQ5.out.rvb.cell (j := 2) rfl
    have d3 := HQ5.out.rvb.cell (j := 3) rfl
    have f0 := HQ5.out.rvb.free 0
    have f1 := HQ5.out.rvb.free 1
    have f2 := HQ5.out.rvb.free 2
    have f3 := HQ5.out.rvb.free 3
    go_wp2_with fail
    generalize hW9 : (((W5.setCell ⟨w.heap.size, 0, none⟩ (.int .u32 (n4 : Int))).setCell ⟨w.heap.size, 1, none⟩ (.slice (some ⟨ib, 0, none⟩) k1 k1)).setCell ⟨w.heap.size, 2, none⟩ (.slice A2 k2 c2)).setCell ⟨w.heap.size, 3, none⟩ (.int .u32 0) = W9
    obtain ⟨g1, g2, g3, g4⟩ := HQ5.out.fin hW9
    have hlv := run_loadVar_mid (P := Tryd.prog) W9 w.heap.size 0 26 _ _ g1.range Tryd.underlying26 rfl info26
    have ert := HRT.out
    rw [HZ.out, if_neg hc] at ert
    exact bodyPost_ret (v := .tuple #[.agg #[.int .u32 (n4 : Int), .slice (some ⟨ib, 0, none⟩) k1 k1, .slice A2 k2 c2, .int .u32 0], .int .i64 eo]) (by simp [results, Tryd.results40, asAddr, hlv]) rfl ⟨_, _, _, _, _, _, _, _, _, rfl, by rw [ert], by rw [ert]; exact g2, g3, fun h => absurd h hc⟩
  subst hc
  obtain ⟨ob, us, rfl, hn2, hcp, hON, hbO, hob⟩ := Hok.out rfl
  subst c2
  have ht1 := HRT.out
  rw [HZ.out, if_pos rfl] at ht1
  have hR1 : Rd1 W5 ib xs := by
    rw [HW5.out]
    exact Rd1.fr HR5.out HI5.out HT5.out (by decide) (by decide) (by decide) (Fr.store _ _ _ _ _)
  have hR2 : Rd2 W5 ob ro.2.1 := by
    rw [HW5.out]
    exact Rd2.fr ⟨us, hON, hbO⟩ HI5.out HT5.out (by decide) (by decide) (Fr.store _ _ _ _ _)
  clear hON hbO hob HRT Hok HZ Hr HI5 HT5 HW5 HR5 HR1 HQ4
  obtain ⟨ys, hys⟩ : ∃ x, x = ro.2.1 := ⟨_, rfl⟩
  obtain ⟨s4, hs4⟩ : ∃ x, x = ro.2.2 := ⟨_, rfl⟩
  rw [← hys] at HO1 HN5 hn2 ht1 hR2
  rw [← hs4] at HL5 HQ5 ht1
  clear hys hs4
  have HR1 := Lib.hid hR1
  have HR2 := Lib.hid hR2
  have HE2 := Lib.hid hn2
  have HRT := Lib.hid ht1
  have hcb : ((0 : Int) != 0) = false := by decide
  have HE : Hid ([Value.int .u32 (n4 : Int), .slice (some ⟨ib, 0, none⟩) k1 k1, .slice (some ⟨ob, 0, none⟩) k2 k2, .int .u32 0] = (([Value.int .u32 (n4 : Int), .slice none 0 0, .slice none 0 0, .int .u32 0].set 1 (.slice (some ⟨ib, 0, none⟩) k1 k1)).set 2 (.slice (some ⟨ob, 0, none⟩) k2 k2))) := rfl
  rw [← HE.out] at HQ5
  clear HE hR1 hR2 hn2 ht1
  have cc1 := HQ5.out.tbb.cell (j := 1) rfl
  have K6 : Hid (Calls Tryd.prog 63 #[.pointer q, .slice (some ⟨ib, 0, none⟩) k1 k1] W5 (StepPost (XPost (rX k1 s4) xs B ib p W5) (ErrPost (rX k1 s4).1 (rX k1 s4).2.2 B p (some ib) W5))) := by
    obtain ⟨vs, h1, h2⟩ := HR1.out
    rw [HP.out]
    exact parseWits_any p s4 B ib k1 k1 xs vs W5 HQ5.out.rd HQ5.out.hB HL5.out h2 h1 HE1.out (by have := HN3.out; have := HE1.out; omega) (fun x hx => (HI1.out x hx).1.1)
  have HX1 := Lib.hid (rX_n k1 s4)
  have ht3 : rt = if (rX xs.length s4).1 = 0 then rT4 n4 true (wW xs (rX xs.length s4).2.1) ys (rX xs.length s4).2.2 else ((rX xs.length s4).1, ⟨n4, xs, ys, 0⟩, (rX xs.length s4).2.2) := HRT.out
  rw [HE1.out] at ht3
  have HL6 := Lib.hid (rX_short k1 s4 HL5.out)
  obtain ⟨rx, hrx⟩ : ∃ r, r = rX k1 s4 := ⟨_, rfl⟩
  rw [← hrx] at K6 HX1 ht3 HL6
  clear HRT hrx HL5
  have HRT := Lib.hid ht3
  clear ht3
  go_upto_region 14 with (go_at_call 63; (with_reducible refine K6.out.mono ?_); rintro e w6 ⟨ew, rfl, h0, h1⟩; have H0 := Lib.hid h0; have H1 := Lib.hid h1; clear h0 h1 K6 cc1; dsimp only)
  clear hcb
  by_cases hc : ew = 0
  rotate_left
  · obtain ⟨hz, hi, hf⟩ := H1.out hc
    have HZ := Lib.hid hz
    have HQ6 : Hid (PS w w6 B p w.heap.size tb [.int .u32 (n4 : Int), .slice (some ⟨ib, 0, none⟩) k1 k1, .slice (some ⟨ob, 0, none⟩) k2 k2, .int .u32 0] rx.2.2) := by
      obtain ⟨vs, h1, h2⟩ := HR1.out
      exact HQ5.out.fr hi hf h2 HIB.out
    have hcb : (ew != 0) = true := by simpa using hc
    clear hi hf hz H0 H1
    have cc0 := HQ6.out.tbb.cell (j := 0) rfl
    have cc1 := HQ6.out.tbb.cell (j := 1) rfl
    have cc2 := HQ6.out.tbb.cell (j := 2) rfl
    have cc3 := HQ6.out.tbb.cell (j := 3) rfl
    have d0 := HQ6.out.rvb.cell (j := 0) rfl
    have d1 := HQ6.out.rvb.cell (j := 1) rfl
    have d2 := HQ6.out.rvb.cell (j := 2) rfl
    have d3 := HQ6.out.rvb.cell (j := 3) rfl
    have f0 := HQ6.out.rvb.free 0
    have f1 := HQ6.out.rvb.free 1
    have f2 := HQ6.out.rvb.free 2
    have f3 := HQ6.out.rvb.free 3
    go_wp2_with fail
    generalize hW9 : (((w6.setCell ⟨w.heap.size, 0, none⟩ (.int .u32 (n4 : Int))).setCell ⟨w.heap.size, 1, none⟩ (.slice (some ⟨ib, 0, none⟩) k1 k1)).setCell ⟨w.heap.size, 2, none⟩ (.slice (some ⟨ob, 0, none⟩) k2 k2)).setCell ⟨w.heap.size, 3, none⟩ (.int .u32 0) = W9
    obtain ⟨g1, g2, g3, g4⟩ := HQ6.out.fin hW9
    have hlv := run_loadVar_mid (P := Tryd.prog) W9 w.heap.size 0 26 _ _ g1.range Tryd.underlying26 rfl info26
    have ert := HRT.out
    rw [HZ.out, if_neg hc] at ert
    exact bodyPost_ret (v := .tuple #[.agg #[.int .u32 (n4 : Int), .slice (some ⟨ib, 0, none⟩) k1 k1, .slice (some ⟨ob, 0, none⟩) k2 k2, .int .u32 0], .int .i64 ew]) (by simp [results, Tryd.results40, asAddr, hlv]) rfl ⟨_, _, _, _, _, _, _, _, _, rfl, by rw [ert], by rw [ert]; exact g2, g3, fun h => absurd h hc⟩
  subst hc
  obtain ⟨hz, hlx, vs6, hx6, hb6, hi6, hf6⟩ := H0.out rfl
  have HQ6 : Hid (PS w w6 B p w.heap.size tb [.int .u32 (n4 : Int), .slice (some ⟨ib, 0, none⟩) k1 k1, .slice (some ⟨ob, 0, none⟩) k2 k2, .int .u32 0] rx.2.2) := by
    obtain ⟨vs, h1, h2⟩ := HR1.out
    exact HQ5.out.fr hi6 hf6 h2 HIB.out
  have hR2 : Rd2 w6 ob ys := by
    obtain ⟨vs, h1, h2⟩ := HR1.out
    exact Rd2.fr HR2.out HQ5.out.rd h2 (by decide) (by decide) hf6
  have hR1 : Rd1 w6 ib (wW xs rx.2.1) := ⟨vs6, hx6, hb6⟩
  have hE1 : (wW xs rx.2.1).length = k1 := by rw [wW_len, hlx, Nat.min_self]; exact HE1.out
  have hOk : ∀ x ∈ wW xs rx.2.1, OkIn x ∧ x.wt.length ≤ 1000000 := fun x hx => ⟨wW_ok xs _ (fun y hy => (HI1.out y hy).1) x hx, Nat.le_trans (wW_wt xs _ 8 HX1.out x hx) (by decide)⟩
  have ht3 := HRT.out
  rw [hz, if_pos rfl] at ht3
  have hk : k1 ≤ 16 := by have := HN3.out; have := HE1.out; omega
  clear HRT HR1 HR2 HI1 HN3 HE1 H0 H1 hx6 hb6 hi6 hf6 hlx HX1 hz HQ5
  obtain ⟨xw, hxw⟩ : ∃ x, x = wW xs rx.2.1 := ⟨_, rfl⟩
  obtain ⟨s6, hs6⟩ : ∃ x, x = rx.2.2 := ⟨_, rfl⟩
  rw [← hxw] at hR1 hE1 hOk ht3
  rw [← hs6] at HQ6 HL6 ht3
  clear hxw hs6
  have hTX := Rd1.tx (l := 0) hR1 hR2 hOk HO1.out hE1 HE2.out hk (by rw [← HE2.out]; exact HN5.out) H4.out (by decide)
  have K14 : Hid (Calls Tryd.prog 14 #[.agg #[.int .u32 (n4 : Int), .slice (some ⟨ib, 0, none⟩) k1 k1, .slice (some ⟨ob, 0, none⟩) k2 k2, .int .u32 0]] w6 (BoolPost (witd ⟨n4, xw, ys, 0⟩) w6)) := witnessed_any _ _ _ w6 hTX
  have HN3 : Hid (xw.length ≤ 16) := by rw [hE1]; exact hk
  have HR1 := Lib.hid hR1
  have HR2 := Lib.hid hR2
  have HE1 := Lib.hid hE1
  have HOk := Lib.hid hOk
  have ht4 : rt = if True ∧ witd ⟨n4, xw, ys, 0⟩ = false then (4, ⟨n4, xw, ys, 0⟩, s6) else (0, ⟨n4, xw, ys, numV s6 4⟩, numS s6 4) := by rw [ht3]; unfold rT4; simp
  clear hR1 hR2 hE1 hOk hTX hk ht3
  have hcb : ((0 : Int) != 0) = false := by decide
  have cc0 := HQ6.out.tbb.cell (j := 0) rfl
  have cc1 := HQ6.out.tbb.cell (j := 1) rfl
  have cc2 := HQ6.out.tbb.cell (j := 2) rfl
  have cc3 := HQ6.out.tbb.cell (j := 3) rfl
  have d0 := HQ6.out.rvb.cell (j := 0) rfl
  have d1 := HQ6.out.rvb.cell (j := 1) rfl
  have d2 := HQ6.out.rvb.cell (j := 2) rfl
  have d3 := HQ6.out.rvb.cell (j := 3) rfl
  have f0 := HQ6.out.rvb.free 0
  have f1 := HQ6.out.rvb.free 1
  have f2 := HQ6.out.rvb.free 2
  have f3 := HQ6.out.rvb.free 3
  cases hwd : witd ⟨n4, xw, ys, 0⟩
  · rw [hwd] at K14 ht4
    have HRT := Lib.hid ht4
    clear ht4 hwd
    go_upto_region 17 with (go_at_call 14; (with_reducible refine K14.out.mono ?_); rintro e w7 ⟨rfl, hb⟩; have HQ7 := Lib.hid (HQ6.out.same hb); clear hb K14; dsimp only)
    clear cc0 cc1 cc2 cc3 d0 d1 d2 d3 f0 f1 f2 f3
    have cc0 := HQ7.out.tbb.cell (j := 0) rfl
    have cc1 := HQ7.out.tbb.cell (j := 1) rfl
    have cc2 := HQ7.out.tbb.cell (j := 2) rfl
    have cc3 := HQ7.out.tbb.cell (j := 3) rfl
    have d0 := HQ7.out.rvb.cell (j := 0) rfl
    have d1 := HQ7.out.rvb.cell (j := 1) rfl
    have d2 := HQ7.out.rvb.cell (j := 2) rfl
    have d3 := HQ7.out.rvb.cell (j := 3) rfl
    have f0 := HQ7.out.rvb.free 0
    have f1 := HQ7.out.rvb.free 1
    have f2 := HQ7.out.rvb.free 2
    have f3 := HQ7.out.rvb.free 3
    go_wp2_with fail
    generalize hW9 : (((w7.setCell ⟨w.heap.size, 0, none⟩ (.int .u32 (n4 : Int))).setCell ⟨w.heap.size, 1, none⟩ (.slice (some ⟨ib, 0, none⟩) k1 k1)).setCell ⟨w.heap.size, 2, none⟩ (.slice (some ⟨ob, 0, none⟩) k2 k2)).setCell ⟨w.heap.size, 3, none⟩ (.int .u32 0) = W9
    obtain ⟨g1, g2, g3, g4⟩ := HQ7.out.fin hW9
    have hlv := run_loadVar_mid (P := Tryd.prog) W9 w.heap.size 0 26 _ _ g1.range Tryd.underlying26 rfl info26
    have ert := HRT.out
    rw [if_pos (by simp)] at ert
    exact bodyPost_ret (v := .tuple #[.agg #[.int .u32 (n4 : Int), .slice (some ⟨ib, 0, none⟩) k1 k1, .slice (some ⟨ob, 0, none⟩) k2 k2, .int .u32 0], .int .i64 4]) (by simp [results, Tryd.results40, asAddr, hlv]) rfl ⟨_, _, _, _, _, _, _, _, _, rfl, by rw [ert], by rw [ert]; exact g2, g3, fun h => absurd h (by decide)⟩
  rw [hwd] at K14 ht4
  rw [if_neg (by simp)] at ht4
  have HRT := Lib.hid ht4
  clear ht4 hwd
  go_upto_region 18 with (go_at_call 14; (with_reducible refine K14.out.mono ?_); rintro e w7 ⟨rfl, hb⟩; have HQ7 := Lib.hid (HQ6.out.same hb); have hF7 : Fr w6 w7 p (some tb) := Fr.of_grown ⟨hb.os, hb.tape, hb.output, hb.size, fun k hk _ => hb.block k hk⟩ _; have HA7 := Lib.hid (Rd1.fr HR1.out HQ6.out.rd HQ6.out.tbb (by decide) (by decide) (by decide) hF7); have HB7 := Lib.hid (Rd2.fr HR2.out HQ6.out.rd HQ6.out.tbb (by decide) (by decide) hF7); clear hb hF7 K14 HR1 HR2; dsimp only)
  clear cc0 cc1 cc2 cc3 d0 d1 d2 d3 f0 f1 f2 f3 hcb HQ6
  have HR1 := HA7
  have HR2 := HB7
  clear HA7 HB7
  have KL : Hid (∀ wq, IsR wq B p s6 → B ≤ wq.heap.size → Calls Tryd.prog 58 #[.pointer q, .int .i64 4] wq (NumPost (numV s6 4) (numS s6 4) B p wq)) := fun wq hq hBq => by rw [HP.out]; exact num_any p s6 4 B wq hq hBq
  have h8 := numV_4 s6
  obtain ⟨n8, hn8⟩ : ∃ n, n = numV s6 4 := ⟨_, rfl⟩
  obtain ⟨s9, hs9⟩ : ∃ x, x = numS s6 4 := ⟨_, rfl⟩
  rw [← hn8] at KL h8
  rw [← hs9] at KL
  have HN8 := Lib.hid hn8
  have HS9 := Lib.hid hs9
  have H8 := Lib.hid h8
  have hw8 : IntKind.u32.wrap (n8 : Int) = (n8 : Int) := by rw [IntKind.wrap_u32]; omega
  clear hn8 hs9 h8
  go_upto_region 19 with (go_at_call 58; (with_reducible refine (KL.out _ HQ7.out.rd HQ7.out.hB).mono ?_); rintro e w8 ⟨rfl, hi, hg⟩; have hq := HQ7.out.call hi hg; have d0 := hq.tbb.cell (j := 3) rfl; have f0 := hq.tbb.free 3; have HQ8 := Lib.hid (hq.set 3 (.int .u32 (n8 : Int))); have HI8 := Lib.hid hi; have HT8 := Lib.hid hq.tbb; have HA8 := Lib.hid (Rd1.fr HR1.out HQ7.out.rd HQ7.out.tbb (by decide) (by decide) (by decide) (Fr.of_grown hg (some tb))); have HB8 := Lib.hid (Rd2.fr HR2.out HQ7.out.rd HQ7.out.tbb (by decide) (by decide) (Fr.of_grown hg (some tb))); clear hi hg hq KL; dsimp only)
  have hA9 := Rd1.fr HA8.out HI8.out HT8.out (by decide) (by decide) (by decide) (Fr.store w8 p tb 3 (.int .u32 (n8 : Int)))
  have hB9 := Rd2.fr HB8.out HI8.out HT8.out (by decide) (by decide) (Fr.store w8 p tb 3 (.int .u32 (n8 : Int)))
  clear HA8 HB8 HI8 HT8
  generalize w8.setCell ⟨tb, 3, none⟩ (.int .u32 (n8 : Int)) = W8 at HQ8 hA9 hB9 ⊢
  have HA9 := Lib.hid hA9
  have HB9 := Lib.hid hB9
  clear hA9 hB9 d0 f0
  have cc0 := HQ8.out.tbb.cell (j := 0) rfl
  have cc1 := HQ8.out.tbb.cell (j := 1) rfl
  have cc2 := HQ8.out.tbb.cell (j := 2) rfl
  have cc3 := HQ8.out.tbb.cell (j := 3) rfl
  have d0 := HQ8.out.rvb.cell (j := 0) rfl
  have d1 := HQ8.out.rvb.cell (j := 1) rfl
  have d2 := HQ8.out.rvb.cell (j := 2) rfl
  have d3 := HQ8.out.rvb.cell (j := 3) rfl
  have f0 := HQ8.out.rvb.free 0
  have f1 := HQ8.out.rvb.free 1
  have f2 := HQ8.out.rvb.free 2
  have f3 := HQ8.out.rvb.free 3
  go_wp2_with fail
  generalize hW9 : (((W8.setCell ⟨w.heap.size, 0, none⟩ (.int .u32 (n4 : Int))).setCell ⟨w.heap.size, 1, none⟩ (.slice (some ⟨ib, 0, none⟩) k1 k1)).setCell ⟨w.heap.size, 2, none⟩ (.slice (some ⟨ob, 0, none⟩) k2 k2)).setCell ⟨w.heap.size, 3, none⟩ (.int .u32 (n8 : Int)) = W9
  obtain ⟨g1, g2, g3, g4⟩ := HQ8.out.fin hW9
  have hlv := run_loadVar_mid (P := Tryd.prog) W9 w.heap.size 0 26 _ _ g1.range Tryd.underlying26 rfl info26
  have ert : rt = (0, ⟨n4, xw, ys, n8⟩, s9) := by rw [HN8.out, HS9.out]; exact HRT.out
  have hA := Rd1.fr HA9.out HQ8.out.rd HQ8.out.rvb (by decide) (by decide) (by decide) g4
  have hB := Rd2.fr HB9.out HQ8.out.rd HQ8.out.rvb (by decide) (by decide) g4
  have hTX : TxN W9 ⟨n4, xw, ys, n8⟩ (.slice (some ⟨ib, 0, none⟩) k1 k1) (.slice (some ⟨ob, 0, none⟩) k2 k2) := ⟨ib, ob, by rw [← HE1.out], by rw [← HE2.out], hA, hB, HOk.out, HO1.out, HN3.out, HN5.out, H4.out, H8.out⟩
  exact bodyPost_ret (v := .tuple #[.agg #[.int .u32 (n4 : Int), .slice (some ⟨ib, 0, none⟩) k1 k1, .slice (some ⟨ob, 0, none⟩) k2 k2, .int .u32 (n8 : Int)], .int .i64 0]) (by simp [results, Tryd.results40, asAddr, hlv]) rfl ⟨_, _, _, _, _, _, _, _, _, rfl, by rw [ert], by rw [ert]; exact g2, g3, fun _ => by rw [ert]; exact ⟨rfl, rfl, hTX⟩⟩
theorem parsed_any (p : Option Nat) (s : Option (List (BitVec 8))) (B : Nat) (w : World) (h : IsR w B p s) (hB : B ≤ w.heap.size) (hl : Short s 100000000) :
    Calls Tryd.prog 40 #[ptr p] w (ParsedPost (rT s) B p w) := by
  unfold rT
  cases hm : rM (numS s 4)
  · exact parsed_no p s B w h hB hl hm
  · exact parsed_yes p s B w h hB hl hm
open Go.RowKit
set_option linter.unusedVariables false
set_option linter.unusedSimpArgs false
set_option maxRecDepth 100000
def tx00 : TTx := ⟨0, [], [], 0⟩
theorem tx00_ok (w : World) (B : Nat) : TxOk w B tx00 (.slice none 0 0) (.slice none 0 0) :=
  ⟨⟨none, 0, rfl, Nat.le_refl _, by omega, fun h => by simp [tx00] at h⟩, ⟨none, 0, rfl, Nat.le_refl _, by omega, fun h => by simp [tx00] at h⟩, by decide, by decide⟩
def ParsePost (r : Int × TTx × Option (List (BitVec 8))) (B : Nat) (p : Option Nat) (w : World) (e : Ending) (w' : World) : Prop :=
  ∃ i o, e = .returned (.tuple #[txV r.2.1 i o, .int .i64 r.1]) ∧ (r.1 = 0 → TxN w' r.2.1 i o) ∧ (r.1 ≠ 0 → r.2.1 = tx00 ∧ i = .slice none 0 0 ∧ o = .slice none 0 0) ∧ IsR w' B p r.2.2 ∧ w.grownBy w' p
theorem ParsePost.ok {r : Int × TTx × Option (List (BitVec 8))} {B : Nat} {p : Option Nat} {w : World} {e : Ending} {w' : World} (h : ParsePost r B p w e w') : ∃ i o, e = .returned (.tuple #[txV r.2.1 i o, .int .i64 r.1]) ∧ TxOk w' w'.heap.size r.2.1 i o ∧ IsR w' B p r.2.2 ∧ w.grownBy w' p := by
  obtain ⟨i, o, e, h1, h2, h3, h4⟩ := h
  refine ⟨i, o, e, ?_, h3, h4⟩
  by_cases hc : r.1 = 0
  · exact (h1 hc).ok
  · obtain ⟨e1, e2, e3⟩ := h2 hc
    rw [e1, e2, e3]; exact tx00_ok _ _
set_option maxHeartbeats 4000000 in
theorem parse_any (p : Option Nat) (s : Option (List (BitVec 8))) (B : Nat) (w : World) (h : IsR w B p s) (hB : B ≤ w.heap.size) (hl : Short s 100000000) :
    Calls Tryd.prog 24 #[ptr p] w (ParsePost (rP s) B p w) := by
  obtain ⟨q, hP⟩ : ∃ q, Value.pointer q = ptr p := ⟨_, rfl⟩
  have hW : Below w.heap.size w (w.alloc (.cells #[.int .u32 0, .slice none 0 0, .slice none 0 0, .int .u32 0] 26)) := (Below.refl _ _).alloc (Nat.le_refl _) _
  have hA := h.below hW hB
  have hv := Blk.new w 26 #[.int .u32 0, .slice none 0 0, .slice none 0 0, .int .u32 0]
  have HV := Lib.hid hv
  have HB := Lib.hid hB
  have HW := Lib.hid hW
  have HNv := Lib.hid (hA.ne hv (by decide))
  have K1 := Lib.hid (parsed_any p s B _ hA (Nat.le_trans hB hW.size) hl)
  have KT : Hid (∀ (s' : Option (List (BitVec 8))) (wq : World), IsR wq B p s' → Calls Tryd.prog 41 #[.pointer q] wq fun e w' => e = .returned (.bool s'.isNone) ∧ wq = w') := fun s' wq hq => by rw [hP]; exact torn_any p s' B wq hq
  obtain ⟨rp, hrp⟩ : ∃ r, r = rP s := ⟨_, rfl⟩
  have hpe : rP s = if (rT s).1 = 0 ∧ (rT s).2.2.isNone = true then (4, ⟨0, [], [], 0⟩, (rT s).2.2) else if (rT s).1 = 0 then rT s else ((rT s).1, ⟨0, [], [], 0⟩, (rT s).2.2) := rfl
  rw [← hrp] at hpe ⊢
  obtain ⟨rt, hrt⟩ : ∃ r, r = rT s := ⟨_, rfl⟩
  rw [← hrt] at K1 hpe
  have HRP := Lib.hid hpe
  rw [← hP] at K1 ⊢
  clear h hB hl hP hA hv hW hrp hpe hrt
  go_enter Tryd.func24, Tryd.ntmps24
  go_upto_region 2 with (go_at_call 40; (with_reducible refine K1.out.mono ?_); rintro e w1 ⟨V, L, A1, n1, c1, A2, n2, c2, c, rfl, hr, hi, hg, hok⟩; dsimp only)
  have hPS : PS w (w1.alloc (.cells #[.int .u32 V, .slice A1 n1 c1, .slice A2 n2 c2, .int .u32 L] 26)) B p w.heap.size w1.heap.size [.int .u32 V, .slice A1 n1 c1, .slice A2 n2 c2, .int .u32 L] rt.2.2 := by
    have hs1 : w.heap.size < w1.heap.size := Nat.lt_of_lt_of_le HV.out.lt hg.size
    have hbw : Below w1.heap.size w1 (w1.alloc (.cells #[.int .u32 V, .slice A1 n1 c1, .slice A2 n2 c2, .int .u32 L] 26)) := (Below.refl _ _).alloc (Nat.le_refl _) _
    have hB1 : B ≤ w1.heap.size := Nat.le_trans HB.out (by omega)
    exact ⟨hi.below hbw hB1, grown_trans (grown_trans (grown_below' p HW.out) hg) (grown_below' p hbw), (HV.out.grown hg HNv.out).alloc _, Blk.new w1 26 #[.int .u32 V, .slice A1 n1 c1, .slice A2 n2 c2, .int .u32 L], by omega, Nat.le_refl _, by omega, Nat.le_trans hB1 hbw.size⟩
  have hok2 : c = 0 → V = (rt.2.1.ver : Int) ∧ L = (rt.2.1.lock : Int) ∧ TxN (w1.alloc (.cells #[.int .u32 V, .slice A1 n1 c1, .slice A2 n2 c2, .int .u32 L] 26)) rt.2.1 (.slice A1 n1 c1) (.slice A2 n2 c2) := fun h0 => by
    obtain ⟨e1, e2, h3⟩ := hok h0
    refine ⟨e1, e2, h3.fr hi (HV.out.grown hg HNv.out) ?_⟩
    have hbw : Below w1.heap.size w1 (w1.alloc (.cells #[.int .u32 V, .slice A1 n1 c1, .slice A2 n2 c2, .int .u32 L] 26)) := (Below.refl _ _).alloc (Nat.le_refl _) _
    exact ⟨hbw.os, hbw.tape, hbw.output, hbw.size, fun k hk _ _ => hbw.block k hk⟩
  obtain ⟨tb, htb⟩ : ∃ n, n = w1.heap.size := ⟨_, rfl⟩
  generalize (w1.alloc (.cells #[.int .u32 V, .slice A1 n1 c1, .slice A2 n2 c2, .int .u32 L] 26)) = W1 at hPS hok2 ⊢
  rw [← htb] at hPS ⊢
  have HQ := Lib.hid hPS
  have HOk := Lib.hid hok2
  have HR := Lib.hid hr
  have hrt : Hid (rt.1 = c) := hr
  clear hPS K1 hi hg HV HNv htb HB HW hok hok2 hr
  by_cases hc : c = 0
  · subst hc
    obtain ⟨rfl, rfl, hTX⟩ := HOk.out rfl
    have HTX := Lib.hid hTX
    clear HOk hTX
    cases hN : rt.2.2.isNone
    · have hpe := HRP.out
      rw [hrt.out, hN, if_neg (by simp), if_pos rfl] at hpe
      subst hpe
      clear HRP
      have cc0 := HQ.out.tbb.cell (j := 0) rfl
      have cc1 := HQ.out.tbb.cell (j := 1) rfl
      have cc2 := HQ.out.tbb.cell (j := 2) rfl
      have cc3 := HQ.out.tbb.cell (j := 3) rfl
      have d0 := HQ.out.rvb.cell (j := 0) rfl
      have d1 := HQ.out.rvb.cell (j := 1) rfl
      have d2 := HQ.out.rvb.cell (j := 2) rfl
      have d3 := HQ.out.rvb.cell (j := 3) rfl
      have f0 := HQ.out.rvb.free 0
      have f1 := HQ.out.rvb.free 1
      have f2 := HQ.out.rvb.free 2
      have f3 := HQ.out.rvb.free 3
      go_wp2_with (go_at_call 41; (with_reducible refine (KT.out _ _ HQ.out.rd).mono ?_); rintro e w2 ⟨rfl, rfl⟩; rw [hN]; dsimp only)
      generalize hW9 : (((W1.setCell ⟨w.heap.size, 0, none⟩ (.int .u32 (rp.2.1.ver : Int))).setCell ⟨w.heap.size, 1, none⟩ (.slice A1 n1 c1)).setCell ⟨w.heap.size, 2, none⟩ (.slice A2 n2 c2)).setCell ⟨w.heap.size, 3, none⟩ (.int .u32 (rp.2.1.lock : Int)) = W9
      obtain ⟨g1, g2, g3, g4⟩ := HQ.out.fin hW9
      have hlv := run_loadVar_mid (P := Tryd.prog) W9 w.heap.size 0 26 _ _ g1.range Tryd.underlying26 rfl info26
      have hfin : ParsePost rp B p w (.returned (.tuple #[.agg #[.int .u32 (rp.2.1.ver : Int), .slice A1 n1 c1, .slice A2 n2 c2, .int .u32 (rp.2.1.lock : Int)], .int .i64 0])) W9 := ⟨.slice A1 n1 c1, .slice A2 n2 c2, by rw [hrt.out]; rfl, fun _ => HTX.out.fr HQ.out.rd HQ.out.rvb g4, fun h => absurd hrt.out h, g2, g3⟩
      exact bodyPost_ret (v := .tuple #[.agg #[.int .u32 (rp.2.1.ver : Int), .slice A1 n1 c1, .slice A2 n2 c2, .int .u32 (rp.2.1.lock : Int)], .int .i64 0]) (by simp [results, Tryd.results24, asAddr, hlv]) rfl hfin
    · have hpe := HRP.out
      rw [hrt.out, hN, if_pos ⟨rfl, rfl⟩] at hpe
      clear HRP
      have HPE := Lib.hid hpe
      clear hpe
      have cc0 := HQ.out.tbb.cell (j := 0) rfl
      have cc1 := HQ.out.tbb.cell (j := 1) rfl
      have cc2 := HQ.out.tbb.cell (j := 2) rfl
      have cc3 := HQ.out.tbb.cell (j := 3) rfl
      have d0 := HQ.out.rvb.cell (j := 0) rfl
      have d1 := HQ.out.rvb.cell (j := 1) rfl
      have d2 := HQ.out.rvb.cell (j := 2) rfl
      have d3 := HQ.out.rvb.cell (j := 3) rfl
      have f0 := HQ.out.rvb.free 0
      have f1 := HQ.out.rvb.free 1
      have f2 := HQ.out.rvb.free 2
      have f3 := HQ.out.rvb.free 3
      go_wp2_with (go_at_call 41; (with_reducible refine (KT.out _ _ HQ.out.rd).mono ?_); rintro e w2 ⟨rfl, rfl⟩; rw [hN]; dsimp only)
      generalize hW9 : (((W1.setCell ⟨w.heap.size, 0, none⟩ (.int .u32 0)).setCell ⟨w.heap.size, 1, none⟩ (.slice none 0 0)).setCell ⟨w.heap.size, 2, none⟩ (.slice none 0 0)).setCell ⟨w.heap.size, 3, none⟩ (.int .u32 0) = W9
      obtain ⟨g1, g2, g3, g4⟩ := HQ.out.fin hW9
      have hlv := run_loadVar_mid (P := Tryd.prog) W9 w.heap.size 0 26 _ _ g1.range Tryd.underlying26 rfl info26
      have hfin : ParsePost rp B p w (.returned (.tuple #[.agg #[.int .u32 0, .slice none 0 0, .slice none 0 0, .int .u32 0], .int .i64 4])) W9 := by
        rw [HPE.out]; exact ⟨.slice none 0 0, .slice none 0 0, rfl, fun h => absurd h (show (4 : Int) ≠ 0 by decide), fun _ => ⟨rfl, rfl, rfl⟩, g2, g3⟩
      exact bodyPost_ret (v := .tuple #[.agg #[.int .u32 0, .slice none 0 0, .slice none 0 0, .int .u32 0], .int .i64 4]) (by simp [results, Tryd.results24, asAddr, hlv]) rfl hfin
  · have hpe := HRP.out
    rw [hrt.out, if_neg (fun h => hc h.1), if_neg hc] at hpe
    have HPE := Lib.hid hpe
    have hcb : (c != 0) = true := by simpa using hc
    have hcc : (c == 0) = false := by simpa using hc
    have HC := Lib.hid hc
    clear HRP hpe HOk hc
    have cc0 := HQ.out.tbb.cell (j := 0) rfl
    have cc1 := HQ.out.tbb.cell (j := 1) rfl
    have cc2 := HQ.out.tbb.cell (j := 2) rfl
    have cc3 := HQ.out.tbb.cell (j := 3) rfl
    have d0 := HQ.out.rvb.cell (j := 0) rfl
    have d1 := HQ.out.rvb.cell (j := 1) rfl
    have d2 := HQ.out.rvb.cell (j := 2) rfl
    have d3 := HQ.out.rvb.cell (j := 3) rfl
    have f0 := HQ.out.rvb.free 0
    have f1 := HQ.out.rvb.free 1
    have f2 := HQ.out.rvb.free 2
    have f3 := HQ.out.rvb.free 3
    go_wp2_with fail
    generalize hW9 : (((W1.setCell ⟨w.heap.size, 0, none⟩ (.int .u32 0)).setCell ⟨w.heap.size, 1, none⟩ (.slice none 0 0)).setCell ⟨w.heap.size, 2, none⟩ (.slice none 0 0)).setCell ⟨w.heap.size, 3, none⟩ (.int .u32 0) = W9
    obtain ⟨g1, g2, g3, g4⟩ := HQ.out.fin hW9
    have hlv := run_loadVar_mid (P := Tryd.prog) W9 w.heap.size 0 26 _ _ g1.range Tryd.underlying26 rfl info26
    have hfin : ParsePost rp B p w (.returned (.tuple #[.agg #[.int .u32 0, .slice none 0 0, .slice none 0 0, .int .u32 0], .int .i64 c])) W9 := by
      rw [HPE.out]; exact ⟨.slice none 0 0, .slice none 0 0, rfl, fun h => absurd h HC.out, fun _ => ⟨rfl, rfl, rfl⟩, g2, g3⟩
    exact bodyPost_ret (v := .tuple #[.agg #[.int .u32 0, .slice none 0 0, .slice none 0 0, .int .u32 0], .int .i64 c]) (by simp [results, Tryd.results24, asAddr, hlv]) rfl hfin
open Go.RowKit
set_option linter.unusedVariables false
set_option linter.unusedSimpArgs false
set_option maxRecDepth 100000
theorem take_app {α : Type} (L M : List α) (n : Nat) (h : L.length = n) : (L ++ M).take n = L := by subst h; simp
theorem drop_app {α : Type} (L M : List α) (n : Nat) (h : L.length = n) : (L ++ M).drop n = M := by subst h; simp
theorem hasB_app (L M : List (BitVec 8)) (n : Nat) (h : L.length = n) : hasB (some (L ++ M)) n = true := by simp [hasB]; omega
theorem take_back (L M : List (BitVec 8)) (n : Nat) (h : L.length = n) : takeL (some (L ++ M)) n = L ∧ cutS (some (L ++ M)) n = some M := by
  obtain ⟨a, b, _⟩ := cut_yes (hasB_app L M n h)
  rw [a, b, Int.toNat_natCast, take_app L M n h, drop_app L M n h]
  exact ⟨rfl, rfl⟩
theorem num_back (v k : Nat) (M : List (BitVec 8)) (hk : isW k = true) (hv : v < 2 ^ (8 * k)) : numV (some (les v k ++ M)) k = v ∧ numS (some (les v k ++ M)) k = some M := by
  obtain ⟨a, b⟩ := take_back (les v k) M k (les_len v k)
  unfold numV numS
  rw [if_pos hk, if_pos hk, a, b, lev_les, Nat.mod_eq_of_lt hv]
  exact ⟨rfl, rfl⟩
theorem num4_back (v : Nat) (M : List (BitVec 8)) (hv : v < 4294967296) : numV (some (les v 4 ++ M)) 4 = v ∧ numS (some (les v 4 ++ M)) 4 = some M := num_back v 4 M rfl hv
theorem num8_back (v : Nat) (M : List (BitVec 8)) (hv : v < 18446744073709551616) : numV (some (les v 8 ++ M)) 8 = v ∧ numS (some (les v 8 ++ M)) 8 = some M := num_back v 8 M rfl hv
theorem get_back (n most : Nat) (M : List (BitVec 8)) (hn : n ≤ most) (hm : most < 1000) : gN (some (form n ++ M)) = n ∧ gS (some (form n ++ M)) = some M ∧ gE (some (form n ++ M)) most = 0 := by
  obtain ⟨a, b, c⟩ := get_of_form n (by omega) M
  refine ⟨a, b, ?_⟩
  rw [c most, if_neg (by omega)]
theorem txt_back (L M : List (BitVec 8)) (h : L.length ≤ 128) : tE (some (txt L ++ M)) 128 = 0 ∧ tL (some (txt L ++ M)) 128 = L ∧ tS (some (txt L ++ M)) 128 = some M := by
  have e : txt L ++ M = form L.length ++ (L ++ M) := by simp [txt]
  rw [e]
  obtain ⟨a, b, c⟩ := get_back L.length 128 (L ++ M) h (by omega)
  obtain ⟨d, f⟩ := take_back L M L.length rfl
  have e1 : tE (some (form L.length ++ (L ++ M))) 128 = 0 := by
    unfold tE
    rw [if_pos c, a, b, f, if_neg (by simp)]
  refine ⟨e1, ?_, ?_⟩
  · unfold tL; rw [if_pos e1, a, b, d]
  · unfold tS; rw [if_pos c, a, b, f]
def bareI (x : TIn) : TIn := ⟨x.tx, x.ix, x.sc, x.sq, []⟩
theorem in_back (x : TIn) (M : List (BitVec 8)) (h : OkIn x) (hs : x.sc.length ≤ 128) : rInE (some (inB x ++ M)) = 0 ∧ rInV (some (inB x ++ M)) = bareI x ∧ rInS (some (inB x ++ M)) = some M := by
  have e : inB x ++ M = x.tx ++ (les x.ix 4 ++ (txt x.sc ++ (les x.sq 4 ++ M))) := by simp [inB]
  rw [e]
  obtain ⟨a1, a2⟩ := take_back x.tx (les x.ix 4 ++ (txt x.sc ++ (les x.sq 4 ++ M))) 32 h.1
  have a1 : takeL (some (x.tx ++ (les x.ix 4 ++ (txt x.sc ++ (les x.sq 4 ++ M))))) 32 = x.tx := a1
  have a2 : cutS (some (x.tx ++ (les x.ix 4 ++ (txt x.sc ++ (les x.sq 4 ++ M))))) 32 = some (les x.ix 4 ++ (txt x.sc ++ (les x.sq 4 ++ M))) := a2
  have a3 : hasB (some (x.tx ++ (les x.ix 4 ++ (txt x.sc ++ (les x.sq 4 ++ M))))) 32 = true := hasB_app _ _ 32 h.1
  obtain ⟨b1, b2⟩ := num4_back x.ix (txt x.sc ++ (les x.sq 4 ++ M)) h.2.1
  obtain ⟨c1, c2, c3⟩ := txt_back x.sc (les x.sq 4 ++ M) hs
  obtain ⟨d1, d2⟩ := num4_back x.sq M h.2.2
  refine ⟨?_, ?_, ?_⟩
  · unfold rInE; rw [a2, b2, c1]
  · unfold rInV hashL; rw [if_pos a3, a1, a2, b1, b2, c2, c3, d1]; rfl
  · unfold rInS; rw [a2, b2, c3, d2]
theorem rN_back : ∀ (xs : List TIn) (M : List (BitVec 8)), (∀ x ∈ xs, OkIn x ∧ x.sc.length ≤ 128) → rN xs.length (some ((xs.map inB).flatten ++ M)) = (0, xs.map bareI, some M)
  | [], M, _ => rfl
  | x :: xs, M, h => by
    have e : ((x :: xs).map inB).flatten ++ M = inB x ++ ((xs.map inB).flatten ++ M) := by simp
    rw [e]
    obtain ⟨a, b, c⟩ := in_back x ((xs.map inB).flatten ++ M) (h x (by simp)).1 (h x (by simp)).2
    have ih := rN_back xs M (fun y hy => h y (by simp [hy]))
    simp only [List.length_cons, rN, a, if_true, b, c, ih, List.map_cons]
theorem fitE_zero {n : Nat} (h0 : 0 < n) (h : n ≤ 16) : fitE n = 0 := by
  unfold fitE
  rw [if_neg (by omega), if_neg (by omega)]
theorem cnt_back (n : Nat) (M : List (BitVec 8)) (h0 : 0 < n) (h : n ≤ 16) : pE (some (form n ++ M)) = 0 ∧ pN (some (form n ++ M)) = n ∧ gS (some (form n ++ M)) = some M := by
  obtain ⟨a, b, c⟩ := get_back n 16 M h (by omega)
  refine ⟨?_, ?_, b⟩
  · unfold pE; rw [if_pos c, a, fitE_zero h0 h]
  · unfold pN gV; rw [if_pos c, a]
theorem rIns_back (xs : List TIn) (M : List (BitVec 8)) (h0 : 0 < xs.length) (hl : xs.length ≤ 16) (h : ∀ x ∈ xs, OkIn x ∧ x.sc.length ≤ 128) : rIns (some (form xs.length ++ ((xs.map inB).flatten ++ M))) = (0, xs.map bareI, some M) := by
  obtain ⟨a, b, c⟩ := cnt_back xs.length ((xs.map inB).flatten ++ M) h0 hl
  unfold rIns
  rw [if_pos a, b, c, rN_back xs M h]
theorem i64w_u64 {z : Int} (h : -9223372036854775808 ≤ z ∧ z < 9223372036854775808) : i64w (u64 z) = z := by
  unfold i64w u64
  rw [IntKind.wrap_i64]
  omega
theorem out_back (y : TOut) (M : List (BitVec 8)) (h : OkOut y) (hs : y.sc.length ≤ 128) : tE (numS (some (outB y ++ M)) 8) 128 = 0 ∧ rOut (some (outB y ++ M)) = y ∧ tS (numS (some (outB y ++ M)) 8) 128 = some M := by
  have e : outB y ++ M = les (u64 y.vl) 8 ++ (txt y.sc ++ M) := by simp [outB]
  rw [e]
  obtain ⟨a1, a2⟩ := num8_back (u64 y.vl) (txt y.sc ++ M) (u64_lt _)
  obtain ⟨c1, c2, c3⟩ := txt_back y.sc M hs
  unfold rOut
  rw [a1, a2, c1, c2, c3, i64w_u64 h]
  exact ⟨rfl, rfl, rfl⟩
theorem rO_back : ∀ (ys : List TOut) (M : List (BitVec 8)), (∀ y ∈ ys, OkOut y ∧ y.sc.length ≤ 128) → rO ys.length (some ((ys.map outB).flatten ++ M)) = (0, ys, some M)
  | [], M, _ => rfl
  | y :: ys, M, h => by
    have e : ((y :: ys).map outB).flatten ++ M = outB y ++ ((ys.map outB).flatten ++ M) := by simp
    rw [e]
    obtain ⟨a, b, c⟩ := out_back y ((ys.map outB).flatten ++ M) (h y (by simp)).1 (h y (by simp)).2
    have ih := rO_back ys M (fun z hz => h z (by simp [hz]))
    simp only [List.length_cons, rO, a, if_true, b, c, ih]
theorem rOuts_back (ys : List TOut) (M : List (BitVec 8)) (h0 : 0 < ys.length) (hl : ys.length ≤ 16) (h : ∀ y ∈ ys, OkOut y ∧ y.sc.length ≤ 128) : rOuts (some (form ys.length ++ ((ys.map outB).flatten ++ M))) = (0, ys, some M) := by
  obtain ⟨a, b, c⟩ := cnt_back ys.length ((ys.map outB).flatten ++ M) h0 hl
  unfold rOuts
  rw [if_pos a, b, c, rO_back ys M h]
theorem rI_back : ∀ (Ls : List (List (BitVec 8))) (M : List (BitVec 8)), (∀ L ∈ Ls, L.length ≤ 128) → rI Ls.length (some ((Ls.map txt).flatten ++ M)) = (0, Ls, some M)
  | [], M, _ => rfl
  | L :: Ls, M, h => by
    have e : ((L :: Ls).map txt).flatten ++ M = txt L ++ ((Ls.map txt).flatten ++ M) := by simp
    rw [e]
    obtain ⟨a, b, c⟩ := txt_back L ((Ls.map txt).flatten ++ M) (h L (by simp))
    have ih := rI_back Ls M (fun z hz => h z (by simp [hz]))
    simp only [List.length_cons, rI, a, if_true, b, c, ih]
theorem rW_back (x : TIn) (M : List (BitVec 8)) (hl : x.wt.length ≤ 8) (h : ∀ L ∈ x.wt, L.length ≤ 128) : rW (some (witB x ++ M)) = (0, x.wt, some M) := by
  have e : witB x ++ M = form x.wt.length ++ ((x.wt.map txt).flatten ++ M) := by simp [witB]
  rw [e]
  obtain ⟨a, b, c⟩ := get_back x.wt.length 8 ((x.wt.map txt).flatten ++ M) hl (by omega)
  unfold rW
  rw [if_pos c, a, b, rI_back x.wt M h]
theorem rX_back : ∀ (xs : List TIn) (M : List (BitVec 8)), (∀ x ∈ xs, x.wt.length ≤ 8 ∧ ∀ L ∈ x.wt, L.length ≤ 128) → rX xs.length (some ((xs.map witB).flatten ++ M)) = (0, xs.map TIn.wt, some M)
  | [], M, _ => rfl
  | x :: xs, M, h => by
    have e : ((x :: xs).map witB).flatten ++ M = witB x ++ ((xs.map witB).flatten ++ M) := by simp
    rw [e]
    have a := rW_back x ((xs.map witB).flatten ++ M) (h x (by simp)).1 (h x (by simp)).2
    have ih := rX_back xs M (fun y hy => h y (by simp [hy]))
    simp only [List.length_cons, rX, a, if_true, ih, List.map_cons]
theorem wW_bare : ∀ (xs : List TIn), wW (xs.map bareI) (xs.map TIn.wt) = xs
  | [] => rfl
  | x :: xs => by
    have := wW_bare xs
    unfold wW at this ⊢
    simp only [List.map_cons, List.zipWith_cons_cons, this]
    rfl
open Go.RowKit
set_option linter.unusedVariables false
set_option linter.unusedSimpArgs false
set_option maxRecDepth 100000
theorem takeL_two (a b : BitVec 8) (M : List (BitVec 8)) : takeL (some (a :: b :: M)) 2 = [a, b] ∧ cutS (some (a :: b :: M)) 2 = some M := take_back [a, b] M 2 rfl
theorem form_16 {n : Nat} (h : n ≤ 16) : form n = [BitVec.ofNat 8 n] := by
  unfold form
  rw [fst_lo (by omega), show wid n = 0 by unfold wid; rw [if_pos (by omega)]]
  rfl
theorem rM_form {n : Nat} (h0 : 0 < n) (h : n ≤ 16) (M : List (BitVec 8)) : rM (some (form n ++ M)) = false := by
  unfold rM
  rw [form_16 h]
  apply decide_eq_false
  intro e
  have hb : BitVec.ofNat 8 n ≠ 0 := fun e => by
    have := congrArg BitVec.toNat e
    rw [BitVec.toNat_ofNat] at this
    simp at this
    omega
  cases M with
  | nil =>
    have : takeL (some ([BitVec.ofNat 8 n] ++ [])) 2 = [] := rfl
    rw [this] at e; cases e
  | cons b M =>
    have : takeL (some ([BitVec.ofNat 8 n] ++ b :: M)) 2 = [BitVec.ofNat 8 n, b] := (takeL_two _ b M).1
    rw [this] at e
    injection e with e
    exact hb e
/-- A transaction whose numbers are in range. -/
def TxIn (t : TTx) : Prop := (∀ x ∈ t.ins, OkIn x) ∧ (∀ y ∈ t.outs, OkOut y) ∧ t.ver < 4294967296 ∧ t.lock < 4294967296
theorem bare_none : ∀ (xs : List TIn), xs.any wit = false → xs.map bareI = xs
  | [], _ => rfl
  | x :: xs, h => by
    simp only [List.any_cons, Bool.or_eq_false_iff] at h
    rw [List.map_cons, bare_none xs h.2]
    have hw : x.wt = [] := by
      have := h.1
      simp [wit] at this
      exact this
    unfold bareI
    rw [← hw]
theorem rT_back (t : TTx) (M : List (BitVec 8)) (hc : chk t = 0) (hi : TxIn t) : rT (some (layB t (witd t) ++ M)) = (0, t, some M) := by
  obtain ⟨c1, c2, c3, c4, c5, c6, c7⟩ := chk_zero hc
  obtain ⟨i1, i2, i3, i4⟩ := hi
  obtain ⟨v, ins, outs, lock⟩ := t
  dsimp only at c1 c2 c3 c4 c5 c6 c7 i1 i2 i3 i4
  have kI := rIns_back ins (form outs.length ++ ((outs.map outB).flatten ++ ((if witd ⟨v, ins, outs, lock⟩ = true then witsB ins else []) ++ (les lock 4 ++ M)))) c6 c1 (fun x hx => ⟨i1 x hx, c3 x hx⟩)
  have kO := rOuts_back outs ((if witd ⟨v, ins, outs, lock⟩ = true then witsB ins else []) ++ (les lock 4 ++ M)) c7 c2 (fun y hy => ⟨i2 y hy, c5 y hy⟩)
  have kX := rX_back ins (les lock 4 ++ M) c4
  obtain ⟨kl1, kl2⟩ := num4_back lock M i4
  have hwd : ∀ l, witd ⟨v, ins, outs, l⟩ = witd ⟨v, ins, outs, lock⟩ := fun _ => rfl
  unfold layB
  cases hw : witd ⟨v, ins, outs, lock⟩
  · rw [hw] at kI kO
    simp only [Bool.false_eq_true, if_false, List.nil_append, List.append_nil, List.append_assoc] at kI kO ⊢
    obtain ⟨kv1, kv2⟩ := num4_back v (form ins.length ++ ((ins.map inB).flatten ++ (form outs.length ++ ((outs.map outB).flatten ++ (les lock 4 ++ M))))) i3
    have kb : ins.map bareI = ins := bare_none ins hw
    rw [kb] at kI
    unfold rT
    rw [kv1, kv2, rM_form c6 c1, if_neg (by simp)]
    unfold rT1
    rw [kI, if_pos rfl]
    unfold rT2
    rw [kO, if_pos rfl]
    unfold rT3
    rw [if_neg (by simp)]
    unfold rT4
    rw [if_neg (by simp), kl1, kl2]
  · rw [hw] at kI kO
    simp only [if_true, List.append_assoc] at kI kO ⊢
    obtain ⟨kv1, kv2⟩ := num4_back v ([0, 1] ++ (form ins.length ++ ((ins.map inB).flatten ++ (form outs.length ++ ((outs.map outB).flatten ++ (witsB ins ++ (les lock 4 ++ M))))))) i3
    obtain ⟨m1, m2⟩ := takeL_two 0 1 (form ins.length ++ ((ins.map inB).flatten ++ (form outs.length ++ ((outs.map outB).flatten ++ (witsB ins ++ (les lock 4 ++ M))))))
    have m1 : rM (some ([0, 1] ++ (form ins.length ++ ((ins.map inB).flatten ++ (form outs.length ++ ((outs.map outB).flatten ++ (witsB ins ++ (les lock 4 ++ M)))))))) = true := decide_eq_true m1
    have m2 : cutS (some ([0, 1] ++ (form ins.length ++ ((ins.map inB).flatten ++ (form outs.length ++ ((outs.map outB).flatten ++ (witsB ins ++ (les lock 4 ++ M)))))))) 2 = some (form ins.length ++ ((ins.map inB).flatten ++ (form outs.length ++ ((outs.map outB).flatten ++ (witsB ins ++ (les lock 4 ++ M)))))) := m2
    have kX : rX ins.length (some (witsB ins ++ (les lock 4 ++ M))) = (0, ins.map TIn.wt, some (les lock 4 ++ M)) := kX
    unfold rT
    rw [kv1, kv2, m1, if_pos rfl, m2]
    unfold rT1
    rw [kI, if_pos rfl]
    unfold rT2
    rw [kO, if_pos rfl]
    unfold rT3
    rw [if_pos rfl, List.length_map, kX, if_pos rfl, wW_bare]
    unfold rT4
    rw [hwd, hw, if_neg (by simp), kl1, kl2]
theorem rP_back (t : TTx) (M : List (BitVec 8)) (hc : chk t = 0) (hi : TxIn t) : rP (some (layB t (witd t) ++ M)) = (0, t, some M) := by
  unfold rP
  rw [rT_back t M hc hi, if_neg (by simp), if_pos rfl]
/-! What is parsed is laid as just those bytes. -/
theorem cut_once {s : Option (List (BitVec 8))} {n : Nat} {M : List (BitVec 8)} (h : cutS s n = some M) : s = some (takeL s n ++ M) ∧ (takeL s n).length = n ∧ hasB s n = true := by
  cases s with
  | none => cases h
  | some L =>
    by_cases hb : hasB (some L) n = true
    · obtain ⟨a, b, c⟩ := cut_yes hb
      rw [b] at h
      injection h with h
      rw [a, ← h]
      have : n ≤ L.length := by simpa using c
      exact ⟨by simp, by simp; omega, hb⟩
    · rw [(cut_no (by simpa using hb)).2] at h; cases h
theorem num_once {s : Option (List (BitVec 8))} {k : Nat} {M : List (BitVec 8)} (hk : isW k = true) (h : numS s k = some M) : s = some (les (numV s k) k ++ M) := by
  unfold numS at h
  rw [if_pos hk] at h
  obtain ⟨a, b, _⟩ := cut_once h
  unfold numV
  rw [if_pos hk]
  have := les_lev (takeL s k)
  rw [b] at this
  rw [this]
  exact a
theorem num4_once {s : Option (List (BitVec 8))} {M : List (BitVec 8)} (h : numS s 4 = some M) : s = some (les (numV s 4) 4 ++ M) := num_once (k := 4) rfl h
theorem num8_once {s : Option (List (BitVec 8))} {M : List (BitVec 8)} (h : numS s 8 = some M) : s = some (les (numV s 8) 8 ++ M) := num_once (k := 8) rfl h
theorem gE_none (most : Nat) : gE none most = 4 := by
  unfold gE gS
  rw [if_pos (Or.inl (by rfl))]
theorem get_once {s : Option (List (BitVec 8))} {most : Nat} (h : gE s most = 0) : ∃ Y, s = some (form (gN s) ++ Y) ∧ gS s = some Y ∧ gN s ≤ most := by
  cases s with
  | none => rw [gE_none] at h; cases h
  | some L =>
    obtain ⟨Y, e, f, _⟩ := get_form h
    exact ⟨Y, by rw [← e], f, gE_ne _ _ h⟩
theorem txt_once {s : Option (List (BitVec 8))} {most : Nat} (h : tE s most = 0) : ∃ M, s = some (txt (tL s most) ++ M) ∧ tS s most = some M ∧ (tL s most).length ≤ most := by
  have hg : gE s most = 0 := by
    by_cases hg : gE s most = 0
    · exact hg
    · unfold tE at h; rw [if_neg hg] at h; exact h
  obtain ⟨Y, e, f, g⟩ := get_once hg
  have eS : tS s most = cutS (gS s) (gN s) := by unfold tS; rw [if_pos hg]
  have eL : tL s most = takeL (gS s) (gN s) := by unfold tL; rw [if_pos h]
  have hn : ¬ (cutS (gS s) (gN s)).isNone = true := fun hh => by
    unfold tE at h; rw [if_pos hg, if_pos hh] at h; cases h
  obtain ⟨M, hM⟩ : ∃ M, cutS (gS s) (gN s) = some M := by
    cases hh : cutS (gS s) (gN s) with
    | none => rw [hh] at hn; exact absurd rfl hn
    | some M => exact ⟨M, rfl⟩
  obtain ⟨a, b, _⟩ := cut_once hM
  refine ⟨M, ?_, by rw [eS, hM], by rw [eL, b]; exact g⟩
  rw [eL]
  unfold txt
  rw [b]
  rw [f] at a
  injection a with a
  rw [List.append_assoc]
  have : takeL (gS s) (gN s) ++ M = Y := by rw [f]; exact a.symm
  rw [this]; exact e
theorem in_once {s : Option (List (BitVec 8))} {M : List (BitVec 8)} (h : rInE s = 0) (hM : rInS s = some M) : s = some (inB (rInV s) ++ M) ∧ (rInV s).sc.length ≤ 128 := by
  unfold rInE at h
  unfold rInS at hM
  obtain ⟨M1, e1, f1, g1⟩ := txt_once h
  have hM' := num4_once hM
  have e2 := num4_once (s := cutS s 32) (M := txt (tL (numS (cutS s 32) 4) 128) ++ M1) e1
  obtain ⟨a, b, c⟩ := cut_once (n := 32) e2
  have a : s = some (takeL s 32 ++ (les (numV (cutS s 32) 4) 4 ++ (txt (tL (numS (cutS s 32) 4) 128) ++ M1))) := a
  have c : hasB s 32 = true := c
  have eh : hashL s = takeL s 32 := by unfold hashL; rw [if_pos c]
  refine ⟨?_, g1⟩
  rw [f1] at hM'
  injection hM' with hM'
  unfold rInV inB
  dsimp only
  rw [eh, f1]
  rw [f1] at hM
  rw [List.append_assoc, List.append_assoc, List.append_assoc, ← hM']
  exact a
theorem numS_none (k : Int) : numS none k = none := by unfold numS; split <;> rfl
theorem rN_none (n : Nat) : (rN n none).2.2 = none := by
  cases n with
  | zero => rfl
  | succ n =>
    have h0 : ¬ rInE none = 0 := by
      unfold rInE tE
      rw [show numS (cutS none 32) 4 = none from numS_none 4, gE_none]; decide
    simp only [rN, h0, if_false]
    unfold rInS tS
    rw [show numS (cutS none 32) 4 = none from numS_none 4]
    rfl
theorem rN_once : ∀ (n : Nat) (s : Option (List (BitVec 8))) (M : List (BitVec 8)), (rN n s).1 = 0 → (rN n s).2.2 = some M → s = some (((rN n s).2.1.map inB).flatten ++ M) ∧ ∀ x ∈ (rN n s).2.1, x.sc.length ≤ 128
  | 0, s, M, h, hM => ⟨by simpa [rN] using hM, fun x hx => by simp [rN] at hx⟩
  | n + 1, s, M, h, hM => by
    by_cases h0 : rInE s = 0
    · simp only [rN, h0, if_true] at h hM ⊢
      obtain ⟨e, f⟩ := rN_once n (rInS s) M h hM
      obtain ⟨e1, f1⟩ := in_once h0 e
      refine ⟨by rw [List.map_cons, List.flatten_cons, List.append_assoc]; exact e1, fun x hx => ?_⟩
      rcases List.mem_cons.1 hx with rfl | hx
      · exact f1
      · exact f x hx
    · simp only [rN, h0, if_false] at h
theorem out_once {s : Option (List (BitVec 8))} {M : List (BitVec 8)} (h : tE (numS s 8) 128 = 0) (hM : tS (numS s 8) 128 = some M) : s = some (outB (rOut s) ++ M) ∧ (rOut s).sc.length ≤ 128 := by
  obtain ⟨M1, e1, f1, g1⟩ := txt_once h
  rw [hM] at f1
  cases f1
  have e2 := num8_once e1
  refine ⟨?_, g1⟩
  unfold rOut outB
  dsimp only
  have hv : u64 (i64w (numV s 8)) = numV s 8 := by
    have : numV s 8 < 18446744073709551616 := by
      have h := lev_lt (takeL s 8)
      have h1 : (takeL s 8).length ≤ 8 := by
        unfold numS at e1
        rw [if_pos (by rfl)] at e1
        obtain ⟨_, b, _⟩ := cut_once (n := 8) e1
        have b : (takeL s 8).length = 8 := b
        omega
      have h2 : 2 ^ (8 * (takeL s 8).length) ≤ 2 ^ 64 := Nat.pow_le_pow_right (by omega) (by omega)
      unfold numV
      rw [if_pos (by rfl)]
      omega
    unfold u64 i64w
    rw [IntKind.wrap_i64]
    omega
  rw [hv, List.append_assoc]
  exact e2
theorem rO_once : ∀ (n : Nat) (s : Option (List (BitVec 8))) (M : List (BitVec 8)), (rO n s).1 = 0 → (rO n s).2.2 = some M → s = some (((rO n s).2.1.map outB).flatten ++ M) ∧ ∀ x ∈ (rO n s).2.1, x.sc.length ≤ 128
  | 0, s, M, h, hM => ⟨by simpa [rO] using hM, fun x hx => by simp [rO] at hx⟩
  | n + 1, s, M, h, hM => by
    by_cases h0 : tE (numS s 8) 128 = 0
    · simp only [rO, h0, if_true] at h hM ⊢
      obtain ⟨e, f⟩ := rO_once n _ M h hM
      obtain ⟨e1, f1⟩ := out_once h0 e
      refine ⟨by rw [List.map_cons, List.flatten_cons, List.append_assoc]; exact e1, fun x hx => ?_⟩
      rcases List.mem_cons.1 hx with rfl | hx
      · exact f1
      · exact f x hx
    · simp only [rO, h0, if_false] at h
theorem rI_once : ∀ (n : Nat) (s : Option (List (BitVec 8))) (M : List (BitVec 8)), (rI n s).1 = 0 → (rI n s).2.2 = some M → s = some (((rI n s).2.1.map txt).flatten ++ M) ∧ ∀ L ∈ (rI n s).2.1, L.length ≤ 128
  | 0, s, M, h, hM => ⟨by simpa [rI] using hM, fun x hx => by simp [rI] at hx⟩
  | n + 1, s, M, h, hM => by
    by_cases h0 : tE s 128 = 0
    · simp only [rI, h0, if_true] at h hM ⊢
      obtain ⟨e, f⟩ := rI_once n _ M h hM
      obtain ⟨M1, e1, f1, g1⟩ := txt_once h0
      rw [e] at f1
      injection f1 with f1
      refine ⟨by rw [List.map_cons, List.flatten_cons, List.append_assoc, f1]; exact e1, fun x hx => ?_⟩
      rcases List.mem_cons.1 hx with rfl | hx
      · exact g1
      · exact f x hx
    · simp only [rI, h0, if_false] at h
theorem rW_once {s : Option (List (BitVec 8))} {M : List (BitVec 8)} (h : (rW s).1 = 0) (hM : (rW s).2.2 = some M) : s = some (form (rW s).2.1.length ++ (((rW s).2.1.map txt).flatten ++ M)) ∧ (rW s).2.1.length ≤ 8 ∧ ∀ L ∈ (rW s).2.1, L.length ≤ 128 := by
  by_cases hg : gE s 8 = 0
  · have eW : rW s = rI (gN s) (gS s) := by unfold rW; rw [if_pos hg]
    rw [eW] at h hM ⊢
    obtain ⟨Y, e, f, g⟩ := get_once hg
    obtain ⟨e1, f1⟩ := rI_once _ _ M h hM
    have hl := rI_len _ _ h
    rw [hl]
    refine ⟨?_, g, f1⟩
    rw [f] at e1
    injection e1 with e1
    rw [f, ← e1]; exact e
  · unfold rW at h; rw [if_neg hg] at h; exact absurd h hg
theorem rX_once : ∀ (n : Nat) (s : Option (List (BitVec 8))) (M : List (BitVec 8)) (xs : List TIn), xs.length = n → (rX n s).1 = 0 → (rX n s).2.2 = some M → s = some (((wW xs (rX n s).2.1).map witB).flatten ++ M) ∧ ∀ L ∈ (rX n s).2.1, L.length ≤ 8 ∧ ∀ l ∈ L, l.length ≤ 128
  | 0, s, M, xs, hx, h, hM => by
    cases xs with
    | nil => exact ⟨by simpa [rX, wW] using hM, fun x hx => by simp [rX] at hx⟩
    | cons => cases hx
  | n + 1, s, M, xs, hx, h, hM => by
    cases xs with
    | nil => cases hx
    | cons x xs =>
      by_cases h0 : (rW s).1 = 0
      · simp only [rX, h0, if_true] at h hM ⊢
        obtain ⟨e, f⟩ := rX_once n _ M xs (by simpa using hx) h hM
        obtain ⟨e1, f1, g1⟩ := rW_once h0 e
        refine ⟨?_, fun L hL => ?_⟩
        · have : wW (x :: xs) ((rW s).2.1 :: (rX n (rW s).2.2).2.1) = ⟨x.tx, x.ix, x.sc, x.sq, (rW s).2.1⟩ :: wW xs (rX n (rW s).2.2).2.1 := rfl
          rw [this, List.map_cons, List.flatten_cons, List.append_assoc]
          unfold witB
          dsimp only
          rw [List.append_assoc]
          exact e1
        · rcases List.mem_cons.1 hL with rfl | hL
          · exact ⟨f1, g1⟩
          · exact f L hL
      · simp only [rX, h0, if_false] at h
open Go.RowKit
set_option linter.unusedVariables false
set_option linter.unusedSimpArgs false
set_option maxRecDepth 100000
theorem fitE_pos {n : Nat} (h : fitE n = 0) : 0 < n ∧ n ≤ 16 := by
  unfold fitE at h
  split at h
  · cases h
  · split at h
    · cases h
    · omega
theorem pE_once {s : Option (List (BitVec 8))} (h : pE s = 0) : ∃ Y, s = some (form (pN s) ++ Y) ∧ gS s = some Y ∧ 0 < pN s ∧ pN s ≤ 16 := by
  by_cases hg : gE s 16 = 0
  · unfold pE at h
    rw [if_pos hg] at h
    obtain ⟨Y, e, f, g⟩ := get_once hg
    have eN : pN s = gN s := by unfold pN gV; rw [if_pos hg]
    rw [eN]
    exact ⟨Y, e, f, fitE_pos h⟩
  · unfold pE at h; rw [if_neg hg] at h; exact absurd h hg
theorem rIns_once {s : Option (List (BitVec 8))} {M : List (BitVec 8)} (h : (rIns s).1 = 0) (hM : (rIns s).2.2 = some M) : s = some (form (rIns s).2.1.length ++ (((rIns s).2.1.map inB).flatten ++ M)) ∧ 0 < (rIns s).2.1.length ∧ (rIns s).2.1.length ≤ 16 ∧ ∀ x ∈ (rIns s).2.1, x.sc.length ≤ 128 := by
  by_cases hp : pE s = 0
  · have e0 : rIns s = rN (pN s) (gS s) := by unfold rIns; rw [if_pos hp]
    rw [e0] at h hM ⊢
    obtain ⟨Y, e, f, g1, g2⟩ := pE_once hp
    obtain ⟨e1, f1⟩ := rN_once _ _ M h hM
    have hl := rN_len _ _ h
    rw [hl]
    refine ⟨?_, g1, g2, f1⟩
    rw [f] at e1
    injection e1 with e1
    rw [f, ← e1]; exact e
  · unfold rIns at h; rw [if_neg hp] at h; exact absurd h hp
theorem rOuts_once {s : Option (List (BitVec 8))} {M : List (BitVec 8)} (h : (rOuts s).1 = 0) (hM : (rOuts s).2.2 = some M) : s = some (form (rOuts s).2.1.length ++ (((rOuts s).2.1.map outB).flatten ++ M)) ∧ 0 < (rOuts s).2.1.length ∧ (rOuts s).2.1.length ≤ 16 ∧ ∀ x ∈ (rOuts s).2.1, x.sc.length ≤ 128 := by
  by_cases hp : pE s = 0
  · have e0 : rOuts s = rO (pN s) (gS s) := by unfold rOuts; rw [if_pos hp]
    rw [e0] at h hM ⊢
    obtain ⟨Y, e, f, g1, g2⟩ := pE_once hp
    obtain ⟨e1, f1⟩ := rO_once _ _ M h hM
    have hl := rO_len _ _ h
    rw [hl]
    refine ⟨?_, g1, g2, f1⟩
    rw [f] at e1
    injection e1 with e1
    rw [f, ← e1]; exact e
  · unfold rOuts at h; rw [if_neg hp] at h; exact absurd h hp
theorem chk_ok {t : TTx} (h1 : 0 < t.ins.length) (h2 : t.ins.length ≤ 16) (h3 : 0 < t.outs.length) (h4 : t.outs.length ≤ 16) (h5 : ∀ x ∈ t.ins, x.sc.length ≤ 128) (h6 : WitOk t.ins) (h7 : ∀ y ∈ t.outs, y.sc.length ≤ 128) : chk t = 0 := by
  unfold chk
  rw [fitE_zero h1 h2, fitE_zero h3 h4, if_neg (by simp), if_neg (by simp), if_neg]
  rintro (h | h)
  · obtain ⟨x, hx, h⟩ := List.any_eq_true.1 h
    have a := h5 x hx
    have b := h6 x hx
    simp [lngIn, lng] at h
    rcases h with (h | h) | ⟨l, hl, h⟩
    · omega
    · omega
    · have := b.2 l hl; omega
  · obtain ⟨y, hy, h⟩ := List.any_eq_true.1 h
    have a := h7 y hy
    simp [lngOut, lng] at h
    omega
theorem wW_sc : ∀ (xs : List TIn) (Ls : List (List (List (BitVec 8)))), (∀ x ∈ xs, x.sc.length ≤ 128) → ∀ x ∈ wW xs Ls, x.sc.length ≤ 128
  | [], _, _, x, hx => by simp [wW] at hx
  | _ :: _, [], _, x, hx => by simp [wW] at hx
  | y :: ys, L :: Ls, h, x, hx => by
    have hx : x ∈ (⟨y.tx, y.ix, y.sc, y.sq, L⟩ : TIn) :: wW ys Ls := hx
    rcases List.mem_cons.1 hx with rfl | hx
    · exact h y (by simp)
    · exact wW_sc ys Ls (fun z hz => h z (by simp [hz])) x hx
theorem wW_wits : ∀ (xs : List TIn) (Ls : List (List (List (BitVec 8)))), (∀ L ∈ Ls, L.length ≤ 8 ∧ ∀ l ∈ L, l.length ≤ 128) → WitOk (wW xs Ls)
  | [], _, _, x, hx => by simp [wW] at hx
  | _ :: _, [], _, x, hx => by simp [wW] at hx
  | y :: ys, L :: Ls, h, x, hx => by
    have hx : x ∈ (⟨y.tx, y.ix, y.sc, y.sq, L⟩ : TIn) :: wW ys Ls := hx
    rcases List.mem_cons.1 hx with rfl | hx
    · exact h L (by simp)
    · exact wW_wits ys Ls (fun z hz => h z (by simp [hz])) x hx
theorem wW_inB : ∀ (xs : List TIn) (Ls : List (List (List (BitVec 8)))), Ls.length = xs.length → (wW xs Ls).map inB = xs.map inB
  | [], _, _ => by simp [wW]
  | _ :: _, [], h => by cases h
  | y :: ys, L :: Ls, h => by
    have e : wW (y :: ys) (L :: Ls) = ⟨y.tx, y.ix, y.sc, y.sq, L⟩ :: wW ys Ls := rfl
    rw [e, List.map_cons, List.map_cons, wW_inB ys Ls (by simpa using h)]
    rfl
theorem rX_len : ∀ (n : Nat) (s : Option (List (BitVec 8))), (rX n s).1 = 0 → (rX n s).2.1.length = n
  | 0, _, _ => rfl
  | n + 1, s, h => by
    by_cases h0 : (rW s).1 = 0
    · simp only [rX, h0, if_true] at h ⊢
      simp [rX_len n _ h]
    · simp only [rX, h0, if_false] at h
theorem wit_none {xs : List TIn} (h : ∀ x ∈ xs, x.wt = []) : xs.any wit = false := by
  rw [List.any_eq_false]
  intro x hx
  simp [wit, h x hx]
theorem rOuts_none : (rOuts none).2.2 = none := by
  unfold rOuts pE
  rw [gE_none, if_neg (by decide), if_neg (by decide)]
  rfl
theorem rW_none : (rW none).2.2 = none := by
  unfold rW
  rw [gE_none, if_neg (by decide)]
  rfl
theorem rX_none (n : Nat) : (rX n none).2.2 = none := by
  cases n with
  | zero => rfl
  | succ n =>
    have h0 : ¬ (rW none).1 = 0 := by
      unfold rW
      rw [gE_none, if_neg (by decide)]; decide
    simp only [rX, h0, if_false]
    exact rW_none
def Onced (s : Option (List (BitVec 8))) (t : TTx) (M : List (BitVec 8)) : Prop := s = some (layB t (witd t) ++ M) ∧ chk t = 0 ∧ TxIn t
theorem rT_once {s : Option (List (BitVec 8))} {M : List (BitVec 8)} (h : (rT s).1 = 0) (hM : (rT s).2.2 = some M) : Onced s (rT s).2.1 M := by
  have hv := numV_4 s
  unfold rT at h hM ⊢
  by_cases hm : rM (numS s 4) = true
  · rw [if_pos hm] at h hM ⊢
    unfold rT1 at h hM ⊢
    obtain ⟨s2, hs2⟩ : ∃ x, x = cutS (numS s 4) 2 := ⟨_, rfl⟩
    rw [← hs2] at h hM ⊢
    by_cases hi : (rIns s2).1 = 0
    · rw [if_pos hi] at h hM ⊢
      unfold rT2 at h hM ⊢
      obtain ⟨s3, hs3⟩ : ∃ x, x = (rIns s2).2.2 := ⟨_, rfl⟩
      rw [← hs3] at h hM ⊢
      by_cases ho : (rOuts s3).1 = 0
      · rw [if_pos ho] at h hM ⊢
        unfold rT3 at h hM ⊢
        rw [if_pos rfl] at h hM ⊢
        obtain ⟨s4, hs4⟩ : ∃ x, x = (rOuts s3).2.2 := ⟨_, rfl⟩
        rw [← hs4] at h hM ⊢
        obtain ⟨n, hn⟩ : ∃ n, n = (rIns s2).2.1.length := ⟨_, rfl⟩
        rw [← hn] at h hM ⊢
        by_cases hx : (rX n s4).1 = 0
        · rw [if_pos hx] at h hM ⊢
          unfold rT4 at h hM ⊢
          by_cases hw : true = true ∧ witd ⟨numV s 4, wW (rIns s2).2.1 (rX n s4).2.1, (rOuts s3).2.1, 0⟩ = false
          · rw [if_pos hw] at h; exact absurd h (show ¬ (4 : Int) = 0 by decide)
          · rw [if_neg hw] at h hM ⊢
            obtain ⟨s5, hs5⟩ : ∃ x, x = (rX n s4).2.2 := ⟨_, rfl⟩
            rw [← hs5] at h hM ⊢
            have hw1 : witd ⟨numV s 4, wW (rIns s2).2.1 (rX n s4).2.1, (rOuts s3).2.1, numV s5 4⟩ = true := by
              cases hh : witd ⟨numV s 4, wW (rIns s2).2.1 (rX n s4).2.1, (rOuts s3).2.1, 0⟩ with
              | true => exact hh
              | false => exact absurd ⟨rfl, hh⟩ hw
            have e6 := num4_once hM
            obtain ⟨e5, f5⟩ := rX_once n s4 _ (rIns s2).2.1 hn.symm hx (by rw [← hs5]; exact e6)
            rw [e5] at hs4
            obtain ⟨e4, g1, g2, g3⟩ := rOuts_once ho hs4.symm
            rw [e4] at hs3
            obtain ⟨e3, k1, k2, k3⟩ := rIns_once hi hs3.symm
            rw [e3] at hs2
            obtain ⟨a, b, _⟩ := cut_once (n := 2) hs2.symm
            have em : takeL (numS s 4) 2 = [0, 1] := of_decide_eq_true hm
            have a : numS s 4 = some (takeL (numS s 4) 2 ++ _) := a
            rw [em] at a
            have e1 := num4_once a
            refine ⟨?_, ?_, ?_⟩
            · rw [hw1]
              unfold layB
              dsimp only
              rw [wW_inB _ _ (by rw [rX_len n s4 hx, hn]), wW_len, rX_len n s4 hx, ← hn, Nat.min_self]
              rw [← hn] at e1
              simp only [if_true, List.append_assoc]
              exact e1
            · refine chk_ok ?_ ?_ g1 g2 (wW_sc _ _ k3) (wW_wits _ _ f5) g3
              · show 0 < (wW _ _).length; rw [wW_len, rX_len n s4 hx, hn, Nat.min_self]; exact k1
              · show (wW _ _).length ≤ 16; rw [wW_len, rX_len n s4 hx, hn, Nat.min_self]; exact k2
            · exact ⟨wW_ok _ _ (fun x hx => (rIns_ok s2 x hx).1), rOuts_ok s3, hv, numV_4 s5⟩
        · rw [if_neg hx] at h; exact absurd h hx
      · rw [if_neg ho] at h; exact absurd h ho
    · rw [if_neg hi] at h; exact absurd h hi
  · rw [if_neg hm] at h hM ⊢
    unfold rT1 at h hM ⊢
    obtain ⟨s2, hs2⟩ : ∃ x, x = numS s 4 := ⟨_, rfl⟩
    rw [← hs2] at h hM ⊢
    by_cases hi : (rIns s2).1 = 0
    · rw [if_pos hi] at h hM ⊢
      unfold rT2 at h hM ⊢
      obtain ⟨s3, hs3⟩ : ∃ x, x = (rIns s2).2.2 := ⟨_, rfl⟩
      rw [← hs3] at h hM ⊢
      by_cases ho : (rOuts s3).1 = 0
      · rw [if_pos ho] at h hM ⊢
        unfold rT3 at h hM ⊢
        rw [if_neg (by simp)] at h hM ⊢
        obtain ⟨s4, hs4⟩ : ∃ x, x = (rOuts s3).2.2 := ⟨_, rfl⟩
        rw [← hs4] at h hM ⊢
        unfold rT4 at h hM ⊢
        rw [if_neg (by simp)] at h hM ⊢
        have hw1 : witd ⟨numV s 4, (rIns s2).2.1, (rOuts s3).2.1, numV s4 4⟩ = false := wit_none fun x hx => (rIns_ok s2 x hx).2
        have e6 := num4_once hM
        rw [e6] at hs4
        obtain ⟨e4, g1, g2, g3⟩ := rOuts_once ho hs4.symm
        rw [e4] at hs3
        obtain ⟨e3, k1, k2, k3⟩ := rIns_once hi hs3.symm
        rw [e3] at hs2
        have e1 := num4_once hs2.symm
        refine ⟨?_, ?_, ?_⟩
        · rw [hw1]
          unfold layB
          simp only [Bool.false_eq_true, if_false, List.append_nil, List.append_assoc]
          exact e1.trans (by rw [e6])
        · exact chk_ok k1 k2 g1 g2 k3 (fun x hx => by rw [(rIns_ok s2 x hx).2]; exact ⟨Nat.zero_le _, fun t ht => by cases ht⟩) g3
        · exact ⟨fun x hx => (rIns_ok s2 x hx).1, rOuts_ok s3, hv, numV_4 s4⟩
      · rw [if_neg ho] at h; exact absurd h ho
    · rw [if_neg hi] at h; exact absurd h hi
theorem rP_once {s : Option (List (BitVec 8))} (h : (rP s).1 = 0) : ∃ M, (rP s).2.2 = some M ∧ Onced s (rP s).2.1 M := by
  unfold rP at h ⊢
  by_cases h1 : (rT s).1 = 0 ∧ (rT s).2.2.isNone = true
  · rw [if_pos h1] at h; exact absurd h (show ¬ (4 : Int) = 0 by decide)
  · rw [if_neg h1] at h ⊢
    by_cases h2 : (rT s).1 = 0
    · rw [if_pos h2] at h ⊢
      cases hh : (rT s).2.2 with
      | none => exact absurd ⟨h2, by rw [hh]; rfl⟩ h1
      | some M => exact ⟨M, rfl, rT_once h2 hh⟩
    · rw [if_neg h2] at h; exact absurd h h2
/-! The errors. -/
def E034 (c : Int) : Prop := c = 0 ∨ c = 3 ∨ c = 4
theorem gE_034 (s : Option (List (BitVec 8))) (m : Nat) : E034 (gE s m) := by
  unfold gE
  split
  · exact .inr (.inr rfl)
  · split
    · exact .inr (.inl rfl)
    · exact .inl rfl
theorem tE_034 (s : Option (List (BitVec 8))) (m : Nat) : E034 (tE s m) := by
  unfold tE
  split
  · split
    · exact .inr (.inr rfl)
    · exact .inl rfl
  · exact gE_034 s m
theorem fitE_034 (n : Nat) : E034 (fitE n) := by
  unfold fitE
  split
  · exact .inr (.inr rfl)
  · split
    · exact .inr (.inl rfl)
    · exact .inl rfl
theorem pE_034 (s : Option (List (BitVec 8))) : E034 (pE s) := by
  unfold pE
  split
  · exact fitE_034 _
  · exact gE_034 _ _
theorem rN_034 : ∀ (n : Nat) (s : Option (List (BitVec 8))), E034 (rN n s).1
  | 0, _ => .inl rfl
  | n + 1, s => by
    by_cases h0 : rInE s = 0
    · simp only [rN, h0, if_true]; exact rN_034 n _
    · simp only [rN, h0, if_false]; exact tE_034 _ _
theorem rO_034 : ∀ (n : Nat) (s : Option (List (BitVec 8))), E034 (rO n s).1
  | 0, _ => .inl rfl
  | n + 1, s => by
    by_cases h0 : tE (numS s 8) 128 = 0
    · simp only [rO, h0, if_true]; exact rO_034 n _
    · simp only [rO, h0, if_false]; exact tE_034 _ _
theorem rI_034 : ∀ (n : Nat) (s : Option (List (BitVec 8))), E034 (rI n s).1
  | 0, _ => .inl rfl
  | n + 1, s => by
    by_cases h0 : tE s 128 = 0
    · simp only [rI, h0, if_true]; exact rI_034 n _
    · simp only [rI, h0, if_false]; exact tE_034 _ _
theorem rW_034 (s : Option (List (BitVec 8))) : E034 (rW s).1 := by
  unfold rW
  split
  · exact rI_034 _ _
  · exact gE_034 _ _
theorem rX_034 : ∀ (n : Nat) (s : Option (List (BitVec 8))), E034 (rX n s).1
  | 0, _ => .inl rfl
  | n + 1, s => by
    by_cases h0 : (rW s).1 = 0
    · simp only [rX, h0, if_true]; exact rX_034 n _
    · simp only [rX, h0, if_false]; exact rW_034 _
theorem rIns_034 (s : Option (List (BitVec 8))) : E034 (rIns s).1 := by
  unfold rIns
  split
  · exact rN_034 _ _
  · exact pE_034 _
theorem rOuts_034 (s : Option (List (BitVec 8))) : E034 (rOuts s).1 := by
  unfold rOuts
  split
  · exact rO_034 _ _
  · exact pE_034 _
theorem rT4_034 (v : Nat) (m : Bool) (i : List TIn) (o : List TOut) (s : Option (List (BitVec 8))) : E034 (rT4 v m i o s).1 := by
  unfold rT4
  split
  · exact .inr (.inr rfl)
  · exact .inl rfl
theorem rT1_034 (v : Nat) (m : Bool) (s : Option (List (BitVec 8))) : E034 (rT1 v m s).1 := by
  unfold rT1
  split
  · unfold rT2
    split
    · unfold rT3
      split
      · split
        · exact rT4_034 _ _ _ _ _
        · exact rX_034 _ _
      · exact rT4_034 _ _ _ _ _
    · exact rOuts_034 _
  · exact rIns_034 _
theorem rT_034 (s : Option (List (BitVec 8))) : E034 (rT s).1 := by
  unfold rT
  split
  · exact rT1_034 _ _ _
  · exact rT1_034 _ _ _
theorem rP_034 (s : Option (List (BitVec 8))) : E034 (rP s).1 := by
  unfold rP
  split
  · exact .inr (.inr rfl)
  · split
    · exact rT_034 s
    · exact rT_034 s
open Go.RowKit
set_option linter.unusedVariables false
set_option linter.unusedSimpArgs false
set_option maxRecDepth 100000
theorem SlN.below {w w' : World} {v : Value} {L : List (BitVec 8)} (h : SlN w v L) (hb : Below w.heap.size w w') : SlN w' v L := by
  obtain ⟨A, cap, e, ho, r⟩ := h
  exact ⟨A, cap, e, ho.size hb.size fun b _ hl _ => hb.block b hl, r⟩
theorem SlNs.below {w w' : World} {vs : List Value} {Ls : List (List (BitVec 8))} (h : SlNs w vs Ls) (hb : Below w.heap.size w w') : SlNs w' vs Ls := ⟨h.1, fun j u hj => (h.2 j u hj).below hb⟩
theorem WsN.below {w w' : World} {u : Value} {Ls : List (List (BitVec 8))} (h : WsN w u Ls) (hb : Below w.heap.size w w') : WsN w' u Ls := by
  obtain ⟨ib, vs, e, hi, hs⟩ := h
  exact ⟨ib, vs, e, hi.below hb hi.lt, hs.below hb⟩
theorem InsW.below {w w' : World} (hb : Below w.heap.size w w') : ∀ {xs : List TIn} {vs : List Value}, InsW w xs vs → InsW w' xs vs
  | [], _, h => h
  | x :: xs, _, ⟨v, u, r, e, hi, hr⟩ => ⟨v, u, r, e, ⟨hi.1.below hb, hi.2.imp id fun h => h.below hb⟩, InsW.below hb hr⟩
theorem Rd1.below {w w' : World} {ib : Nat} {xs : List TIn} (h : Rd1 w ib xs) (hb : Below w.heap.size w w') : Rd1 w' ib xs := by
  obtain ⟨vs, h1, h2⟩ := h
  exact ⟨vs, h1.below hb, h2.below hb h2.lt⟩
theorem Rd2.below {w w' : World} {ob : Nat} {ys : List TOut} (h : Rd2 w ob ys) (hb : Below w.heap.size w w') : Rd2 w' ob ys := by
  obtain ⟨vs, ⟨ss, h1, e⟩, h2⟩ := h
  exact ⟨vs, ⟨ss, h1.below hb, e⟩, h2.below hb h2.lt⟩
theorem TxN.below {w w' : World} {t : TTx} {i o : Value} (h : TxN w t i o) (hb : Below w.heap.size w w') : TxN w' t i o := by
  obtain ⟨ib, ob, e1, e2, a, b, r⟩ := h
  exact ⟨ib, ob, e1, e2, a.below hb, b.below hb, r⟩
theorem TxOk.txIn {w : World} {B : Nat} {t : TTx} {i o : Value} (h : TxOk w B t i o) : TxIn t := by
  obtain ⟨h1, h2, h3, h4⟩ := h
  refine ⟨fun x hx => ?_, fun y hy => ?_, h3, h4⟩
  · obtain ⟨_, _, b, o, _, _, hj⟩ := Row.open h1
    obtain ⟨k, hk, rfl⟩ := List.getElem_of_mem hx
    obtain ⟨s, u, _, hok⟩ := hj k hk
    have e : t.ins.getD k In0 = t.ins[k] := by simp [List.getD, hk]
    rw [e] at hok
    exact hok.2.2.2
  · obtain ⟨_, _, b, o, _, _, hj⟩ := Row.open h2
    obtain ⟨k, hk, rfl⟩ := List.getElem_of_mem hy
    obtain ⟨s, _, hok⟩ := hj k hk
    have e : t.outs.getD k Out0 = t.outs[k] := by simp [List.getD, hk]
    rw [e] at hok
    exact hok.2.2
/-- The transaction less its witnesses. -/
def bareT (t : TTx) : TTx := ⟨t.ver, t.ins.map bareI, t.outs, t.lock⟩
theorem chk_bare {t : TTx} (h : chk t = 0) : chk (bareT t) = 0 := by
  obtain ⟨c1, c2, c3, c4, c5, c6, c7⟩ := chk_zero h
  refine chk_ok (t := bareT t) (by show 0 < (t.ins.map bareI).length; rw [List.length_map]; exact c6) (by show (t.ins.map bareI).length ≤ 16; rw [List.length_map]; exact c1) c7 c2 ?_ ?_ c5
  · intro x hx
    obtain ⟨y, hy, rfl⟩ := List.mem_map.1 hx
    exact c3 y hy
  · intro x hx
    obtain ⟨y, hy, rfl⟩ := List.mem_map.1 hx
    exact ⟨Nat.zero_le _, fun t ht => by cases ht⟩
theorem witd_bare (t : TTx) : witd (bareT t) = false := wit_none fun x hx => by
  obtain ⟨y, hy, rfl⟩ := List.mem_map.1 hx
  rfl
theorem lay_bare (t : TTx) : layB (bareT t) false = layB t false := by
  unfold layB bareT
  dsimp only
  rw [List.length_map, List.map_map]
  rfl
theorem ins_more {w : World} {ib : Nat} {rest : List Value} : ∀ (xs : List TIn) (pre vs : List Value), (∀ x ∈ xs, OkIn x ∧ x.wt.length ≤ 1000000) → InsW w xs vs → Blk w ib 57 (pre ++ (vs ++ rest)) → ∀ j, j < xs.length → ∃ s u, w.rangeAt ib (pre.length + j * 36) (inV (xs.getD j In0) s u) ∧ InOk w w.heap.size (xs.getD j In0) s u
  | [], _, _, _, _, _, j, hj => by simp at hj
  | x :: xs, pre, _, hx, ⟨v, u, r, e, hi, hr⟩, hb, j, hj => by
    subst e
    rw [List.append_assoc] at hb
    cases j with
    | zero =>
      refine ⟨v, u, ?_, hi.1.sl, WitN.ws hi.2 (hx x (by simp)).2, (hx x (by simp)).1⟩
      simpa using range_mid hb
    | succ j =>
      have := ins_more xs (pre ++ inV x v u) r (fun y hy => hx y (by simp [hy])) hr (by rw [List.append_assoc]; exact hb) j (by simp at hj; omega)
      rw [List.length_append, inV_len (hx x (by simp)).1.1] at this
      rw [show pre.length + (j + 1) * 36 = pre.length + 36 + j * 36 by omega]
      exact this
theorem InsW.is' {w : World} {ib n cap : Nat} {xs : List TIn} {vs rest : List Value} (h : InsW w xs vs) (hb : Blk w ib 57 (vs ++ rest)) (hx : ∀ x ∈ xs, OkIn x ∧ x.wt.length ≤ 1000000) (hn : xs.length = n) (hl : n ≤ cap) (hm : cap ≤ 9223372036854775807) : Is w w.heap.size (.slice (some ⟨ib, 0, none⟩) n cap) xs := by
  subst hn
  refine ⟨_, _, rfl, hl, hm, fun hp => ⟨ib, 0, rfl, hb.lt, fun j hj => ?_⟩⟩
  exact ins_more xs [] vs hx h hb j hj
theorem info57a : (Tryd.prog.info? 57).map (fun i => (i.zero, i.size, i.bytes)) = some (some (.agg zI0.toArray), 36, 96) := by kernel_rfl
theorem inV_ones {x : TIn} {A1 : Option Addr} {n1 c1 : Nat} {u : Value} (hu : u.oneCell' = true) : ∀ v ∈ inV x (.slice A1 n1 c1) u, v.oneCell' = true := by
  intro v hv
  simp only [inV, List.mem_append, List.mem_cons, List.not_mem_nil, or_false] at hv
  rcases hv with hv | rfl | rfl | rfl | rfl
  · exact vbs_one _ v hv
  · rfl
  · rfl
  · rfl
  · exact hu
theorem InsW.ones {w : World} : ∀ {xs : List TIn} {vs : List Value}, InsW w xs vs → ∀ v ∈ vs, v.oneCell' = true
  | [], _, h, v, hv => by cases h; cases hv
  | x :: xs, _, ⟨v, u, r, e, hi, hr⟩, y, hy => by
    subst e
    rcases List.mem_append.1 hy with hy | hy
    · obtain ⟨A, cap, rfl, _⟩ := hi.1
      have hu : u.oneCell' = true := by
        rcases hi.2 with ⟨rfl, _⟩ | ⟨_, _, rfl, _⟩ <;> rfl
      exact inV_ones hu y hy
    · exact hr.ones y hy
theorem run_appI {w : World} {g0 ib n c : Nat} {news : List Value} (hown : w.ownsRow g0 57 36 (.slice (some ⟨g0, 0, none⟩) 0 0) 0 []) (hb : Blk w ib 57 news) (hl : news.length = n * 36) (h1 : ∀ u ∈ news, u.oneCell' = true) (hn : 0 < n) (hn2 : n ≤ 1000) (hbase : g0 ≤ w.heap.size) :
    ∃ v' w', (Builtin.append_ #[23, 23] 23 #[.slice (some ⟨g0, 0, none⟩) 0 0, .slice (some ⟨ib, 0, none⟩) n c]).run Tryd.prog w = .ok v' w' ∧ w'.ownsRow g0 57 36 v' n news ∧ w.grownBy w' (some g0) := by
  obtain ⟨i0, hi, hz0, hz1, hz2⟩ := info_parts info57a
  have hnews : ∀ j u, news[j]? = some u → w.cell? ((⟨ib, 0, none⟩ : Addr).add j) = some u := fun j u hj => by
    rw [Addr.add_mid, Nat.zero_add]; exact hb.cell hj
  obtain ⟨v', w', hr, ho, hg, _⟩ := run_append_own (P := Tryd.prog) w g0 23 23 57 i0 (.agg zI0.toArray) 36 96 Tryd.underlying23 hi hz0 hz1 hz2 rfl (by omega) (.slice (some ⟨g0, 0, none⟩) 0 0) 0 [] hown ⟨ib, 0, none⟩ n c news (by omega) hnews h1 (by unfold maxLen; omega) (by omega) hbase
  exact ⟨v', w', hr, by simpa using ho, hg⟩
theorem wpList_appI {w : World} {ops : Array Oper} {rest : List Oper} {o : Oper} {a : Act} {Q : Exit → Act → World → Prop} (hgd : o.guard = none) (s x : Operand) (ho : o.op = .call { callee := .builtin .append, args := #[s, x], argTypes := #[23, 23] }) (hty : o.type = 23)
    (g0 ib n c : Nat) (news : List Value) (hs : a.eval s = .slice (some ⟨g0, 0, none⟩) 0 0) (hx : a.eval x = .slice (some ⟨ib, 0, none⟩) n c) (hown : w.ownsRow g0 57 36 (.slice (some ⟨g0, 0, none⟩) 0 0) 0 []) (hb : Blk w ib 57 news) (hl : news.length = n * 36) (h1 : ∀ u ∈ news, u.oneCell' = true) (hn : 0 < n) (hn2 : n ≤ 1000) (hbase : g0 ≤ w.heap.size)
    (h : ∀ g cap more w', Blk w' g 57 (news ++ more) → g0 ≤ g → n ≤ cap → cap ≤ 9223372036854775807 → w.grownBy w' (some g0) → wpList Tryd.prog ops Q rest (a.put o.dst (.slice (some ⟨g, 0, none⟩) n cap)) w') : wpList Tryd.prog ops Q (o :: rest) a w := by
  refine wpList_plain hgd fun K hK => ?_
  obtain ⟨v', w', hr, h2, h3⟩ := run_appI (c := c) hown hb hl h1 hn hn2 hbase
  rw [← hty] at hr
  unfold Oper.wp execOp
  simp only [ho, resolve, invoke, builtin, Sem.run_bind, Sem.run_pure, Result.andThen_ok, List.map_toArray, List.map_cons, List.map_nil, hs, hx]
  rw [hty] at hr ⊢
  simp only [hr]
  apply hK
  rcases h2.2 with ⟨_, h0⟩ | ⟨g, cap, cur, rfl, hg1, hg2, hc1, hc2, hc3, hc4⟩
  · omega
  · refine h g cap (cur.toList.drop (n * 36)) w' ?_ hg1 hc1 hc2 h3
    unfold Blk
    rw [hg2]
    have : news ++ cur.toList.drop (n * 36) = cur.toList := by rw [← hc4]; exact List.take_append_drop _ _
    rw [this]
open Go.RowKit
set_option linter.unusedVariables false
set_option linter.unusedSimpArgs false
set_option maxRecDepth 100000
set_option maxHeartbeats 4000000 in
theorem sameIn_any (x y : TIn) (s u s2 u2 : Value) (w : World) (h1 : InOk w w.heap.size x s u) (h2 : InOk w w.heap.size y s2 u2) :
    Calls Tryd.prog 43 #[.agg (inV x s u).toArray, .agg (inV y s2 u2).toArray] w (EqPost (decide (x.tx = y.tx) && decide (x.ix = y.ix) && decide (x.sq = y.sq) && decide (x.sc = y.sc) && decide (x.wt = y.wt)) w) := by
  obtain ⟨hs, hu, hl, _, _⟩ := h1
  obtain ⟨hs2, hu2, hl2, _, _⟩ := h2
  obtain ⟨e32, e33, e34, e35⟩ := inV_at (x := x) (s := s) (v := u) hl
  obtain ⟨k32, k33, k34, k35⟩ := inV_at (x := y) (s := s2) (v := u2) hl2
  have hb1 : Below w.heap.size w (w.alloc (.cells (inV x s u).toArray 57)) := (Below.refl _ _).alloc (Nat.le_refl _) _
  have hB2 : Below w.heap.size w ((w.alloc (.cells (inV x s u).toArray 57)).alloc (.cells (inV y s2 u2).toArray 57)) := hb1.alloc hb1.size _
  have hBx : Blk ((w.alloc (.cells (inV x s u).toArray 57)).alloc (.cells (inV y s2 u2).toArray 57)) w.heap.size 57 (inV x s u) := by
    have := (Blk.new w 57 (inV x s u).toArray).alloc (.cells (inV y s2 u2).toArray 57)
    rwa [List.toList_toArray] at this
  have hBy : Blk ((w.alloc (.cells (inV x s u).toArray 57)).alloc (.cells (inV y s2 u2).toArray 57)) (w.heap.size + 1) 57 (inV y s2 u2) := by
    have := Blk.new (w.alloc (.cells (inV x s u).toArray 57)) 57 (inV y s2 u2).toArray
    rw [List.toList_toArray, show (w.alloc (.cells (inV x s u).toArray 57)).heap.size = w.heap.size + 1 by simp] at this
    exact this
  have K45 : Hid (∀ wq, Below w.heap.size w wq → Calls Tryd.prog 64 #[s, s2] wq (EqPost (decide (x.sc = y.sc)) wq)) := fun wq hq => sameText_any s s2 _ _ wq ((hs.keep hq (Nat.le_refl _)).up hq.size) ((hs2.keep hq (Nat.le_refl _)).up hq.size)
  have K46 : Hid (∀ wq, Below w.heap.size w wq → Calls Tryd.prog 65 #[u, u2, .func (.func 64) #[] #[]] wq (EqPost (decide (x.wt = y.wt)) wq)) := fun wq hq => eqf_texts u u2 _ _ wq ((hu.keep hq (Nat.le_refl _)).up hq.size) ((hu2.keep hq (Nat.le_refl _)).up hq.size)
  obtain ⟨As, cs, rfl, _⟩ := hs
  obtain ⟨As2, cs2, rfl, _⟩ := hs2
  obtain ⟨Au, cu, rfl, _⟩ := hu
  obtain ⟨Au2, cu2, rfl, _⟩ := hu2
  have HRx := Lib.hid hBx.prev
  have HRy := Lib.hid hBy.prev
  have HIx := Lib.hid (info57 (a := x.ix) hl)
  have HIy := Lib.hid (info57 (a := y.ix) hl2)
  have hq57 := eql57 x.tx y.tx x.ix y.ix hl hl2
  have cx33 := hBx.cell e33
  have cx34 := hBx.cell e34
  have cx35 := hBx.cell e35
  have cy33 := hBy.cell k33
  have cy34 := hBy.cell k34
  have cy35 := hBy.cell k35
  have HB := Lib.hid hB2
  generalize inV x (.slice As x.sc.length cs) (.slice Au x.wt.length cu) = CX at *
  generalize inV y (.slice As2 y.sc.length cs2) (.slice Au2 y.wt.length cu2) = CY at *
  obtain ⟨l1, hl1⟩ : ∃ n, n = x.sc.length := ⟨_, rfl⟩
  obtain ⟨l2, hl22⟩ : ∃ n, n = y.sc.length := ⟨_, rfl⟩
  obtain ⟨m1, hm1⟩ : ∃ n, n = x.wt.length := ⟨_, rfl⟩
  obtain ⟨m2, hm2⟩ : ∃ n, n = y.wt.length := ⟨_, rfl⟩
  rw [← hl1] at cx33 K45
  rw [← hl22] at cy33 K45
  rw [← hm1] at cx35 K46
  rw [← hm2] at cy35 K46
  obtain ⟨px, hpx⟩ : ∃ p, p = prevV x.tx x.ix := ⟨_, rfl⟩
  obtain ⟨py, hpy⟩ : ∃ p, p = prevV y.tx y.ix := ⟨_, rfl⟩
  rw [← hpx] at HRx HIx hq57
  rw [← hpy] at HRy HIy hq57
  obtain ⟨b1, hb1'⟩ : ∃ b, b = (decide (x.tx = y.tx) && decide (x.ix = y.ix)) := ⟨_, rfl⟩
  obtain ⟨b3, hb3⟩ : ∃ b, b = decide (x.sc = y.sc) := ⟨_, rfl⟩
  obtain ⟨b4, hb4⟩ : ∃ b, b = decide (x.wt = y.wt) := ⟨_, rfl⟩
  rw [← hb1', ← hb3, ← hb4]
  rw [← hb1'] at hq57
  rw [← hb3] at K45
  rw [← hb4] at K46
  clear e32 e33 e34 e35 k32 k33 k34 k35 hb1 hB2 hBx hBy hl1 hl22 hm1 hm2 hpx hpy hb1' hb3 hb4 hl hl2
  cases b1 with
  | false =>
    go_enter Tryd.func43, Tryd.ntmps43
    go_wp2_with (first
      | (with_reducible refine wpList_load_mid rfl 54 (.tmp 5) rfl w.heap.size 0 rfl px _ HRx.out Tryd.underlying54 rfl HIx.out ?_)
      | (with_reducible refine wpList_load_mid rfl 54 (.tmp 7) rfl (w.heap.size + 1) 0 rfl py _ HRy.out Tryd.underlying54 rfl HIy.out ?_))
    go_ret
    exact ⟨by simp, HB.out⟩
  | true =>
    by_cases hsq : x.sq = y.sq
    · have e2 : ((x.sq : Int) == (y.sq : Int)) = true := by simp [hsq]
      have d2 : decide (x.sq = y.sq) = true := by simpa using hsq
      rw [d2]
      clear hsq d2
      cases b3 with
      | false =>
        go_enter Tryd.func43, Tryd.ntmps43
        go_wp2_with (first
          | (with_reducible refine wpList_load_mid rfl 54 (.tmp 5) rfl w.heap.size 0 rfl px _ HRx.out Tryd.underlying54 rfl HIx.out ?_)
          | (with_reducible refine wpList_load_mid rfl 54 (.tmp 7) rfl (w.heap.size + 1) 0 rfl py _ HRy.out Tryd.underlying54 rfl HIy.out ?_)
          | (go_at_call 64; (with_reducible refine (K45.out _ HB.out).mono ?_); rintro e w2 ⟨rfl, hb2⟩; dsimp only))
        go_ret
        exact ⟨by simp, HB.out.trans (hb2.mono HB.out.size)⟩
      | true =>
        go_enter Tryd.func43, Tryd.ntmps43
        go_wp2_with (first
          | (with_reducible refine wpList_load_mid rfl 54 (.tmp 5) rfl w.heap.size 0 rfl px _ HRx.out Tryd.underlying54 rfl HIx.out ?_)
          | (with_reducible refine wpList_load_mid rfl 54 (.tmp 7) rfl (w.heap.size + 1) 0 rfl py _ HRy.out Tryd.underlying54 rfl HIy.out ?_)
          | (go_at_call 64; (with_reducible refine (K45.out _ HB.out).mono ?_); rintro e w2 ⟨rfl, hb2⟩; have HB2 : Hid (Below w.heap.size w w2) := HB.out.trans (hb2.mono HB.out.size); have dx := (hb2.cell (p := ⟨w.heap.size, 35, none⟩) (World.block_lt_of_cell? _ _ cx35)).trans cx35; have dy := (hb2.cell (p := ⟨w.heap.size + 1, 35, none⟩) (World.block_lt_of_cell? _ _ cy35)).trans cy35; clear hb2; dsimp only)
          | (go_at_call 65; (with_reducible refine (K46.out _ HB2.out).mono ?_); rintro e w3 ⟨rfl, hb3⟩; dsimp only))
        go_ret
        exact ⟨by simp, HB2.out.trans (hb3.mono HB2.out.size)⟩
    · have e2 : ((x.sq : Int) == (y.sq : Int)) = false := by simp; omega
      have d2 : decide (x.sq = y.sq) = false := by simpa using hsq
      rw [d2]
      clear hsq d2
      go_enter Tryd.func43, Tryd.ntmps43
      go_wp2_with (first
        | (with_reducible refine wpList_load_mid rfl 54 (.tmp 5) rfl w.heap.size 0 rfl px _ HRx.out Tryd.underlying54 rfl HIx.out ?_)
        | (with_reducible refine wpList_load_mid rfl 54 (.tmp 7) rfl (w.heap.size + 1) 0 rfl py _ HRy.out Tryd.underlying54 rfl HIy.out ?_))
      go_ret
      exact ⟨by simp, HB.out⟩
open Go.RowKit
set_option linter.unusedVariables false
set_option linter.unusedSimpArgs false
set_option maxRecDepth 100000
instance decIn : DecidableEq TIn := fun x y => decidable_of_iff (x.tx = y.tx ∧ x.ix = y.ix ∧ x.sc = y.sc ∧ x.sq = y.sq ∧ x.wt = y.wt) (by
  obtain ⟨a, b, c, d, e⟩ := x
  obtain ⟨a', b', c', d', e'⟩ := y
  simp)
instance decOut : DecidableEq TOut := fun x y => decidable_of_iff (x.vl = y.vl ∧ x.sc = y.sc) (by
  obtain ⟨a, b⟩ := x
  obtain ⟨a', b'⟩ := y
  simp)
instance decTx : DecidableEq TTx := fun x y => decidable_of_iff (x.ver = y.ver ∧ x.ins = y.ins ∧ x.outs = y.outs ∧ x.lock = y.lock) (by
  obtain ⟨a, b, c, d⟩ := x
  obtain ⟨a', b', c', d'⟩ := y
  simp)
theorem in_eq (x y : TIn) : (decide (x.tx = y.tx) && decide (x.ix = y.ix) && decide (x.sq = y.sq) && decide (x.sc = y.sc) && decide (x.wt = y.wt)) = decide (x = y) := by
  obtain ⟨a, b, c, d, e⟩ := x
  obtain ⟨a', b', c', d', e'⟩ := y
  rw [Bool.eq_iff_iff]
  simp
  constructor
  · rintro ⟨⟨⟨⟨h1, h2⟩, h3⟩, h4⟩, h5⟩; exact ⟨h1, h2, h4, h3, h5⟩
  · rintro ⟨h1, h2, h3, h4, h5⟩; exact ⟨⟨⟨⟨h1, h2⟩, h4⟩, h3⟩, h5⟩
theorem out_eq (x y : TOut) : (decide (x.vl = y.vl) && decide (x.sc = y.sc)) = decide (x = y) := by
  obtain ⟨a, b⟩ := x
  obtain ⟨a', b'⟩ := y
  rw [Bool.eq_iff_iff]
  simp
theorem sameIn_eq (x y : TIn) (s u s2 u2 : Value) (w : World) (h1 : InOk w w.heap.size x s u) (h2 : InOk w w.heap.size y s2 u2) :
    Calls Tryd.prog 43 #[.agg (inV x s u).toArray, .agg (inV y s2 u2).toArray] w (EqPost (decide (x = y)) w) := by
  have := sameIn_any x y s u s2 u2 w h1 h2
  rwa [in_eq] at this
set_option maxHeartbeats 4000000 in
theorem sameOut_eq (x y : TOut) (s s2 : Value) (w : World) (h1 : OutOk w w.heap.size x s) (h2 : OutOk w w.heap.size y s2) :
    Calls Tryd.prog 45 #[.agg (outV x s).toArray, .agg (outV y s2).toArray] w (EqPost (decide (x = y)) w) := by
  rw [← out_eq]
  obtain ⟨hs, _, _⟩ := h1
  obtain ⟨hs2, _, _⟩ := h2
  have K45 : Hid (∀ wq, Below w.heap.size w wq → Calls Tryd.prog 64 #[s, s2] wq (EqPost (decide (x.sc = y.sc)) wq)) := fun wq hq => sameText_any s s2 _ _ wq ((hs.keep hq (Nat.le_refl _)).up hq.size) ((hs2.keep hq (Nat.le_refl _)).up hq.size)
  obtain ⟨As, cs, rfl, _⟩ := hs
  obtain ⟨As2, cs2, rfl, _⟩ := hs2
  obtain ⟨b3, hb3⟩ : ∃ b, b = decide (x.sc = y.sc) := ⟨_, rfl⟩
  rw [← hb3] at K45 ⊢
  obtain ⟨l1, hl1⟩ : ∃ n, n = x.sc.length := ⟨_, rfl⟩
  obtain ⟨l2, hl22⟩ : ∃ n, n = y.sc.length := ⟨_, rfl⟩
  rw [← hl1, ← hl22] at K45
  show Calls Tryd.prog 45 #[.agg #[.int .i64 x.vl, .slice As x.sc.length cs], .agg #[.int .i64 y.vl, .slice As2 y.sc.length cs2]] w _
  rw [← hl1, ← hl22]
  have HB : Hid (Below w.heap.size w ((w.alloc (.cells #[.int .i64 x.vl, .slice As l1 cs] 43)).alloc (.cells #[.int .i64 y.vl, .slice As2 l2 cs2] 43))) := ((Below.refl w.heap.size w).alloc (Nat.le_refl _) _).alloc (by simp) _
  clear hb3 hl1 hl22
  by_cases hv : x.vl = y.vl
  · have e2 : (x.vl == y.vl) = true := by simp [hv]
    have d2 : decide (x.vl = y.vl) = true := by simpa using hv
    rw [d2]
    clear hv d2
    go_enter Tryd.func45, Tryd.ntmps45
    go_wp2_with (go_at_call 64; (with_reducible refine (K45.out _ HB.out).mono ?_); rintro e w2 ⟨rfl, hb2⟩; dsimp only)
    go_ret
    exact ⟨by simp, HB.out.trans (hb2.mono HB.out.size)⟩
  · have e2 : (x.vl == y.vl) = false := by simpa using hv
    have d2 : decide (x.vl = y.vl) = false := by simpa using hv
    rw [d2]
    clear hv d2
    go_enter Tryd.func45, Tryd.ntmps45
    go_wp2_with fail
    go_ret
    exact ⟨by simp, HB.out⟩
theorem inV_one {w : World} {B : Nat} {x : TIn} {s u : Value} (h : InOk w B x s u) : ∀ v ∈ inV x s u, v.oneCell' = true := by
  obtain ⟨⟨A, c, rfl, _⟩, ⟨A2, c2, rfl, _⟩, _⟩ := h
  intro v hv
  rcases List.mem_append.1 hv with h | h
  · exact vbs_one _ _ h
  · simp at h
    rcases h with rfl | rfl | rfl | rfl <;> rfl
theorem outV_one {w : World} {B : Nat} {y : TOut} {s : Value} (h : OutOk w B y s) : ∀ v ∈ outV y s, v.oneCell' = true := by
  obtain ⟨⟨A, c, rfl, _⟩, _⟩ := h
  intro v hv
  simp [outV] at hv
  rcases hv with rfl | rfl <;> rfl
/-- A block of zeros, then stored into. -/
theorem laid_new {w : World} {T n : Nat} {Z C : List Value} (hZ : Z.length = n) (hC : C.length = n) : Blk ((w.alloc (.cells Z.toArray T)).setCells w.heap.size 0 C) w.heap.size T C ∧ Below w.heap.size w ((w.alloc (.cells Z.toArray T)).setCells w.heap.size 0 C) := by
  have hb := Blk.new w T Z.toArray
  rw [List.toList_toArray] at hb
  exact ⟨hb.setCells C (by omega), below_setCells (Nat.le_refl _) _ _ _ ((Below.refl _ _).alloc (Nat.le_refl _) _)⟩
def Z36 : List Value := inV ⟨Z32, 0, [], 0, []⟩ (.slice none 0 0) (.slice none 0 0)
def Z2 : List Value := [.int .i64 0, .slice none 0 0]
theorem zero60 (w : World) : (zeroValue 57).run Tryd.prog w = .ok (.agg Z36.toArray) w := by kernel_rfl
theorem zero65 (w : World) : (zeroValue 43).run Tryd.prog w = .ok (.agg Z2.toArray) w := by kernel_rfl
theorem there_new {w : World} {T n : Nat} {Z C : List Value} (hZ : Z.length = n) (hC : C.length = n) : (w.alloc (.cells Z.toArray T)).there w.heap.size 0 C.toArray.size := by
  have hb := Blk.new w T Z.toArray
  rw [List.toList_toArray] at hb
  have h2 : C.toArray.size = Z.length := by rw [List.size_toArray]; omega
  rw [h2]
  exact hb.there
set_option maxHeartbeats 4000000 in
theorem eqf_ins (v u : Value) (xs ys : List TIn) (w : World) (h1 : Is w w.heap.size v xs) (h2 : Is w w.heap.size u ys) :
    Calls Tryd.prog 42 #[v, u, .func (.func 43) #[] #[]] w (EqPost (decide (xs = ys)) w) := by
  obtain ⟨A, c, b, o, rfl, hA, hr⟩ := Row.open h1
  obtain ⟨A2, c2, b2, o2, rfl, hA2, hr2⟩ := Row.open h2
  obtain ⟨_, _, e1, hm1, hm2, _⟩ := h1
  cases e1
  have HR := Lib.hid hr
  have HR2 := Lib.hid hr2
  have HA := Lib.hid hA
  have HA2 := Lib.hid hA2
  obtain ⟨lx, hlx⟩ : ∃ n, n = xs.length := ⟨_, rfl⟩
  obtain ⟨ly, hly⟩ : ∃ n, n = ys.length := ⟨_, rfl⟩
  have Hlx := Lib.hid hlx
  have Hly := Lib.hid hly
  have hlm : lx ≤ 9223372036854775807 := by omega
  have Hb0 := Lib.hid (Below.refl w.heap.size w)
  rw [← hlx, ← hly]
  clear hr hr2 hA hA2 hm1 hm2 h2
  by_cases hl : lx = ly
  · have hly2 : ly = ys.length := hly
    clear hly
    subst hl
    clear hlx hly2
    go_enter Tryd.func42, Tryd.ntmps42
    go_wp2_with fail
    go_loopw [17] (fun iv wq => ∃ i : Nat, i ≤ lx ∧ iv = .int .i64 (i : Int) ∧ xs.take i = ys.take i ∧ Below w.heap.size w wq) (fun iv _ => lx - (intOf iv).toNat)
    case atStart => exact ⟨0, Nat.zero_le _, rfl, rfl, Hb0.out⟩
    case round =>
      obtain ⟨i, hi, rfl, he, hb⟩ := hrel
      have HE := Lib.hid he
      clear he
      by_cases hlt : i < lx
      · have hlt' : (i : Int) < (lx : Int) := by omega
        obtain rfl := HA.out (by rw [← Hlx.out]; omega)
        obtain rfl := HA2.out (by rw [← Hly.out]; omega)
        obtain ⟨hbl, s1, u1, cu, hs⟩ := HR.out i (by rw [← Hlx.out]; exact hlt)
        obtain ⟨hbl2, s2, u2, cu2, hs2⟩ := HR2.out i (by rw [← Hly.out]; exact hlt)
        have hst := take_eq_succ xs ys In0 i (by rw [← Hlx.out]; exact hlt) (by rw [← Hly.out]; exact hlt) HE.out
        have hne := ne_at xs ys In0 i
        have hs1 := (hs.keep hb (Nat.le_refl _)).up hb.size
        have hs21 := (hs2.keep hb (Nat.le_refl _)).up hb.size
        have r1 := range_keep cu hb hbl
        have r2 := range_keep cu2 hb hbl2
        have KK : Hid (∀ wq, Below wr.heap.size wr wq → Calls Tryd.prog 43 #[.agg (inV (xs.getD i In0) s1 u1).toArray, .agg (inV (ys.getD i In0) s2 u2).toArray] wq (EqPost (decide (xs.getD i In0 = ys.getD i In0)) wq)) := fun wq hq => sameIn_eq _ _ s1 u1 s2 u2 wq ((hs1.keep hq (Nat.le_refl _)).up hq.size) ((hs21.keep hq (Nat.le_refl _)).up hq.size)
        have o1 := inV_one hs1
        have o2' := inV_one hs21
        have n1 : (inV (xs.getD i In0) s1 u1).length = 36 := inV_len hs1.2.2.1
        have n2 : (inV (ys.getD i In0) s2 u2).length = 36 := inV_len hs21.2.2.1
        obtain ⟨C, hC⟩ : ∃ C, C = inV (xs.getD i In0) s1 u1 := ⟨_, rfl⟩
        obtain ⟨D, hD⟩ : ∃ D, D = inV (ys.getD i In0) s2 u2 := ⟨_, rfl⟩
        rw [← hC] at r1 KK o1 n1
        rw [← hD] at r2 KK o2' n2
        have R1 := Lib.hid r1
        have R2 : Hid (∀ wq, Below wr.heap.size wr wq → wq.rangeAt b2 (o2 + i * 36) D) := fun wq hq => range_keep r2 hq (Nat.lt_of_lt_of_le hbl2 hb.size)
        have O1 := Lib.hid o1
        have O2 := Lib.hid o2'
        have N1 := Lib.hid n1
        have N2 := Lib.hid n2
        have IC : Hid ((Tryd.prog.info? 57).map (·.size) = some C.length) := show _ = _ by rw [n1]; kernel_rfl
        have ID : Hid ((Tryd.prog.info? 57).map (·.size) = some D.length) := show _ = _ by rw [n2]; kernel_rfl
        have hz := zero60
        have HZl : Hid (Z36.length = 36) := show Z36.length = 36 by rfl
        clear hC hD r1 r2 o1 o2' n1 n2 hs1 hs21
        generalize xs.getD i In0 = x at KK hst hne cu hs
        generalize ys.getD i In0 = y at KK hst hne cu2 hs2
        have Hb := Lib.hid hb
        have K := KK
        by_cases hxy : x = y
        · have HT := Lib.hid (hst.2 hxy)
          rw [show decide (x = y) = true by simpa using hxy] at K
          clear hst hne hxy hbl hbl2 hb cu cu2 hs hs2
          go_upto_region 6 with (first
            | (with_reducible refine wpList_load_mid rfl 57 (.tmp 20) rfl b (o + i * 36) rfl C _ R1.out Tryd.underlying57 rfl IC.out ?_)
            | (with_reducible refine wpList_store_mid rfl 57 (.tmp 8) (.tmp 21) rfl wr.heap.size 0 C.toArray rfl rfl (there_new (Z := Z36) HZl.out N1.out) (info_arr IC.out) (all_oneCell_toArray O1.out) ?_))
          obtain ⟨hBC, hbC⟩ := laid_new (w := wr) (T := 57) HZl.out N1.out
          have hbC0 := hbC
          generalize (wr.alloc (.cells Z36.toArray 57)).setCells wr.heap.size 0 C = w6 at hBC hbC ⊢
          generalize hg6 : wr.heap.size = g6 at hBC ⊢
          have R26 := Lib.hid (R2.out w6 hbC)
          have HBC := Lib.hid hBC
          have HbC := Lib.hid hbC
          have Hg6 := Lib.hid hg6
          clear hbC0 hBC hbC hg6
          go_upto_region 7 with (first
            | (with_reducible refine wpList_load_mid rfl 57 (.tmp 24) rfl b2 (o2 + i * 36) rfl D _ R26.out Tryd.underlying57 rfl ID.out ?_)
            | (with_reducible refine wpList_store_mid rfl 57 (.tmp 9) (.tmp 25) rfl w6.heap.size 0 D.toArray rfl rfl (there_new (Z := Z36) HZl.out N2.out) (info_arr ID.out) (all_oneCell_toArray O2.out) ?_))
          obtain ⟨hBD, hbD⟩ := laid_new (w := w6) (T := 57) HZl.out N2.out
          have hBC7 := HBC.out.below hbD HBC.out.lt
          have Hw7 := Lib.hid (Below.trans HbC.out (hbD.mono HbC.out.size))
          generalize (w6.alloc (.cells Z36.toArray 57)).setCells w6.heap.size 0 D = w7 at hBD hbD hBC7 Hw7 ⊢
          clear hbD
          generalize w6.heap.size = g7 at hBD ⊢
          have RC := Lib.hid hBC7.range
          have RD := Lib.hid hBD.range
          clear hBC7 hBD
          go_wp2_with (first
            | (with_reducible refine wpList_load_mid rfl 57 (.tmp 8) rfl g6 0 rfl C _ RC.out Tryd.underlying57 rfl IC.out ?_)
            | (with_reducible refine wpList_load_mid rfl 57 (.tmp 9) rfl g7 0 rfl D _ RD.out Tryd.underlying57 rfl ID.out ?_)
            | (go_at_call 43; (with_reducible refine (K.out _ Hw7.out).mono ?_); rintro e w8 ⟨rfl, hb8⟩; dsimp only))
          go_roundw
          case rel => exact ⟨i + 1, by omega, by go_num, HT.out, Hb.out.trans ((Hw7.out.trans (hb8.mono Hw7.out.size)).mono Hb.out.size)⟩
          case measure => simp [intOf]; omega
        · have HT : Hid (decide (xs = ys) = false) := show decide (xs = ys) = false by simpa using hne hxy
          rw [show decide (x = y) = false by simpa using hxy] at K
          clear hst hne hxy hbl hbl2 hb cu cu2 hs hs2
          go_upto_region 6 with (first
            | (with_reducible refine wpList_load_mid rfl 57 (.tmp 20) rfl b (o + i * 36) rfl C _ R1.out Tryd.underlying57 rfl IC.out ?_)
            | (with_reducible refine wpList_store_mid rfl 57 (.tmp 8) (.tmp 21) rfl wr.heap.size 0 C.toArray rfl rfl (there_new (Z := Z36) HZl.out N1.out) (info_arr IC.out) (all_oneCell_toArray O1.out) ?_))
          obtain ⟨hBC, hbC⟩ := laid_new (w := wr) (T := 57) HZl.out N1.out
          have hbC0 := hbC
          generalize (wr.alloc (.cells Z36.toArray 57)).setCells wr.heap.size 0 C = w6 at hBC hbC ⊢
          generalize hg6 : wr.heap.size = g6 at hBC ⊢
          have R26 := Lib.hid (R2.out w6 hbC)
          have HBC := Lib.hid hBC
          have HbC := Lib.hid hbC
          have Hg6 := Lib.hid hg6
          clear hbC0 hBC hbC hg6
          go_upto_region 7 with (first
            | (with_reducible refine wpList_load_mid rfl 57 (.tmp 24) rfl b2 (o2 + i * 36) rfl D _ R26.out Tryd.underlying57 rfl ID.out ?_)
            | (with_reducible refine wpList_store_mid rfl 57 (.tmp 9) (.tmp 25) rfl w6.heap.size 0 D.toArray rfl rfl (there_new (Z := Z36) HZl.out N2.out) (info_arr ID.out) (all_oneCell_toArray O2.out) ?_))
          obtain ⟨hBD, hbD⟩ := laid_new (w := w6) (T := 57) HZl.out N2.out
          have hBC7 := HBC.out.below hbD HBC.out.lt
          have Hw7 := Lib.hid (Below.trans HbC.out (hbD.mono HbC.out.size))
          generalize (w6.alloc (.cells Z36.toArray 57)).setCells w6.heap.size 0 D = w7 at hBD hbD hBC7 Hw7 ⊢
          clear hbD
          generalize w6.heap.size = g7 at hBD ⊢
          have RC := Lib.hid hBC7.range
          have RD := Lib.hid hBD.range
          clear hBC7 hBD
          go_wp2_with (first
            | (with_reducible refine wpList_load_mid rfl 57 (.tmp 8) rfl g6 0 rfl C _ RC.out Tryd.underlying57 rfl IC.out ?_)
            | (with_reducible refine wpList_load_mid rfl 57 (.tmp 9) rfl g7 0 rfl D _ RD.out Tryd.underlying57 rfl ID.out ?_)
            | (go_at_call 43; (with_reducible refine (K.out _ Hw7.out).mono ?_); rintro e w8 ⟨rfl, hb8⟩; dsimp only))
          go_ret
          exact ⟨by rw [HT.out]; rfl, Hb.out.trans ((Hw7.out.trans (hb8.mono Hw7.out.size)).mono Hb.out.size)⟩
      · obtain rfl : i = lx := by omega
        have hlt' : ¬ (i : Int) < (i : Int) := by omega
        have HT : Hid (decide (xs = ys) = true) := show decide (xs = ys) = true by
          have := HE.out
          rw [List.take_of_length_le (by rw [← Hlx.out]; exact Nat.le_refl _), List.take_of_length_le (by rw [← Hly.out]; exact Nat.le_refl _)] at this
          simpa using this
        go_wp2_with fail
        go_ret
        exact ⟨by rw [HT.out]; rfl, hb⟩
  · have e1 : ((lx : Int) != (ly : Int)) = true := by simp; omega
    have HT : Hid (decide (xs = ys) = false) := show decide (xs = ys) = false by
      have : xs ≠ ys := fun e => hl (by rw [hlx, hly, e])
      simpa using this
    clear hl hlx hly
    go_enter Tryd.func42, Tryd.ntmps42
    go_wp2_with fail
    go_ret
    exact ⟨by rw [HT.out]; rfl, Hb0.out⟩
set_option maxHeartbeats 4000000 in
theorem eqf_outs (v u : Value) (xs ys : List TOut) (w : World) (h1 : Os w w.heap.size v xs) (h2 : Os w w.heap.size u ys) :
    Calls Tryd.prog 44 #[v, u, .func (.func 45) #[] #[]] w (EqPost (decide (xs = ys)) w) := by
  obtain ⟨A, c, b, o, rfl, hA, hr⟩ := Row.open h1
  obtain ⟨A2, c2, b2, o2, rfl, hA2, hr2⟩ := Row.open h2
  obtain ⟨_, _, e1, hm1, hm2, _⟩ := h1
  cases e1
  have HR := Lib.hid hr
  have HR2 := Lib.hid hr2
  have HA := Lib.hid hA
  have HA2 := Lib.hid hA2
  obtain ⟨lx, hlx⟩ : ∃ n, n = xs.length := ⟨_, rfl⟩
  obtain ⟨ly, hly⟩ : ∃ n, n = ys.length := ⟨_, rfl⟩
  have Hlx := Lib.hid hlx
  have Hly := Lib.hid hly
  have hlm : lx ≤ 9223372036854775807 := by omega
  have Hb0 := Lib.hid (Below.refl w.heap.size w)
  rw [← hlx, ← hly]
  clear hr hr2 hA hA2 hm1 hm2 h2
  by_cases hl : lx = ly
  · have hly2 : ly = ys.length := hly
    clear hly
    subst hl
    clear hlx hly2
    go_enter Tryd.func44, Tryd.ntmps44
    go_wp2_with fail
    go_loopw [17] (fun iv wq => ∃ i : Nat, i ≤ lx ∧ iv = .int .i64 (i : Int) ∧ xs.take i = ys.take i ∧ Below w.heap.size w wq) (fun iv _ => lx - (intOf iv).toNat)
    case atStart => exact ⟨0, Nat.zero_le _, rfl, rfl, Hb0.out⟩
    case round =>
      obtain ⟨i, hi, rfl, he, hb⟩ := hrel
      have HE := Lib.hid he
      clear he
      by_cases hlt : i < lx
      · have hlt' : (i : Int) < (lx : Int) := by omega
        obtain rfl := HA.out (by rw [← Hlx.out]; omega)
        obtain rfl := HA2.out (by rw [← Hly.out]; omega)
        obtain ⟨hbl, s1, cu, hs⟩ := HR.out i (by rw [← Hlx.out]; exact hlt)
        obtain ⟨hbl2, s2, cu2, hs2⟩ := HR2.out i (by rw [← Hly.out]; exact hlt)
        have hst := take_eq_succ xs ys Out0 i (by rw [← Hlx.out]; exact hlt) (by rw [← Hly.out]; exact hlt) HE.out
        have hne := ne_at xs ys Out0 i
        have hs1 := (hs.keep hb (Nat.le_refl _)).up hb.size
        have hs21 := (hs2.keep hb (Nat.le_refl _)).up hb.size
        have r1 := range_keep cu hb hbl
        have r2 := range_keep cu2 hb hbl2
        have KK : Hid (∀ wq, Below wr.heap.size wr wq → Calls Tryd.prog 45 #[.agg (outV (xs.getD i Out0) s1).toArray, .agg (outV (ys.getD i Out0) s2).toArray] wq (EqPost (decide (xs.getD i Out0 = ys.getD i Out0)) wq)) := fun wq hq => sameOut_eq _ _ s1 s2 wq ((hs1.keep hq (Nat.le_refl _)).up hq.size) ((hs21.keep hq (Nat.le_refl _)).up hq.size)
        have o1 := outV_one hs1
        have o2' := outV_one hs21
        have n1 : (outV (xs.getD i Out0) s1).length = 2 := rfl
        have n2 : (outV (ys.getD i Out0) s2).length = 2 := rfl
        obtain ⟨C, hC⟩ : ∃ C, C = outV (xs.getD i Out0) s1 := ⟨_, rfl⟩
        obtain ⟨D, hD⟩ : ∃ D, D = outV (ys.getD i Out0) s2 := ⟨_, rfl⟩
        rw [← hC] at r1 KK o1 n1
        rw [← hD] at r2 KK o2' n2
        have R1 := Lib.hid r1
        have R2 : Hid (∀ wq, Below wr.heap.size wr wq → wq.rangeAt b2 (o2 + i * 2) D) := fun wq hq => range_keep r2 hq (Nat.lt_of_lt_of_le hbl2 hb.size)
        have O1 := Lib.hid o1
        have O2 := Lib.hid o2'
        have N1 := Lib.hid n1
        have N2 := Lib.hid n2
        have IC : Hid ((Tryd.prog.info? 43).map (·.size) = some C.length) := show _ = _ by rw [n1]; kernel_rfl
        have ID : Hid ((Tryd.prog.info? 43).map (·.size) = some D.length) := show _ = _ by rw [n2]; kernel_rfl
        have hz := zero65
        have HZl : Hid (Z2.length = 2) := show Z2.length = 2 by rfl
        clear hC hD r1 r2 o1 o2' n1 n2 hs1 hs21
        generalize xs.getD i Out0 = x at KK hst hne cu hs
        generalize ys.getD i Out0 = y at KK hst hne cu2 hs2
        have Hb := Lib.hid hb
        have K := KK
        by_cases hxy : x = y
        · have HT := Lib.hid (hst.2 hxy)
          rw [show decide (x = y) = true by simpa using hxy] at K
          clear hst hne hxy hbl hbl2 hb cu cu2 hs hs2
          go_upto_region 6 with (first
            | (with_reducible refine wpList_load_mid rfl 43 (.tmp 20) rfl b (o + i * 2) rfl C _ R1.out Tryd.underlying43 rfl IC.out ?_)
            | (with_reducible refine wpList_store_mid rfl 43 (.tmp 8) (.tmp 21) rfl wr.heap.size 0 C.toArray rfl rfl (there_new (Z := Z2) HZl.out N1.out) (info_arr IC.out) (all_oneCell_toArray O1.out) ?_))
          obtain ⟨hBC, hbC⟩ := laid_new (w := wr) (T := 43) HZl.out N1.out
          have hbC0 := hbC
          generalize (wr.alloc (.cells Z2.toArray 43)).setCells wr.heap.size 0 C = w6 at hBC hbC ⊢
          generalize hg6 : wr.heap.size = g6 at hBC ⊢
          have R26 := Lib.hid (R2.out w6 hbC)
          have HBC := Lib.hid hBC
          have HbC := Lib.hid hbC
          have Hg6 := Lib.hid hg6
          clear hbC0 hBC hbC hg6
          go_upto_region 7 with (first
            | (with_reducible refine wpList_load_mid rfl 43 (.tmp 24) rfl b2 (o2 + i * 2) rfl D _ R26.out Tryd.underlying43 rfl ID.out ?_)
            | (with_reducible refine wpList_store_mid rfl 43 (.tmp 9) (.tmp 25) rfl w6.heap.size 0 D.toArray rfl rfl (there_new (Z := Z2) HZl.out N2.out) (info_arr ID.out) (all_oneCell_toArray O2.out) ?_))
          obtain ⟨hBD, hbD⟩ := laid_new (w := w6) (T := 43) HZl.out N2.out
          have hBC7 := HBC.out.below hbD HBC.out.lt
          have Hw7 := Lib.hid (Below.trans HbC.out (hbD.mono HbC.out.size))
          generalize (w6.alloc (.cells Z2.toArray 43)).setCells w6.heap.size 0 D = w7 at hBD hbD hBC7 Hw7 ⊢
          clear hbD
          generalize w6.heap.size = g7 at hBD ⊢
          have RC := Lib.hid hBC7.range
          have RD := Lib.hid hBD.range
          clear hBC7 hBD
          go_wp2_with (first
            | (with_reducible refine wpList_load_mid rfl 43 (.tmp 8) rfl g6 0 rfl C _ RC.out Tryd.underlying43 rfl IC.out ?_)
            | (with_reducible refine wpList_load_mid rfl 43 (.tmp 9) rfl g7 0 rfl D _ RD.out Tryd.underlying43 rfl ID.out ?_)
            | (go_at_call 45; (with_reducible refine (K.out _ Hw7.out).mono ?_); rintro e w8 ⟨rfl, hb8⟩; dsimp only))
          go_roundw
          case rel => exact ⟨i + 1, by omega, by go_num, HT.out, Hb.out.trans ((Hw7.out.trans (hb8.mono Hw7.out.size)).mono Hb.out.size)⟩
          case measure => simp [intOf]; omega
        · have HT : Hid (decide (xs = ys) = false) := show decide (xs = ys) = false by simpa using hne hxy
          rw [show decide (x = y) = false by simpa using hxy] at K
          clear hst hne hxy hbl hbl2 hb cu cu2 hs hs2
          go_upto_region 6 with (first
            | (with_reducible refine wpList_load_mid rfl 43 (.tmp 20) rfl b (o + i * 2) rfl C _ R1.out Tryd.underlying43 rfl IC.out ?_)
            | (with_reducible refine wpList_store_mid rfl 43 (.tmp 8) (.tmp 21) rfl wr.heap.size 0 C.toArray rfl rfl (there_new (Z := Z2) HZl.out N1.out) (info_arr IC.out) (all_oneCell_toArray O1.out) ?_))
          obtain ⟨hBC, hbC⟩ := laid_new (w := wr) (T := 43) HZl.out N1.out
          have hbC0 := hbC
          generalize (wr.alloc (.cells Z2.toArray 43)).setCells wr.heap.size 0 C = w6 at hBC hbC ⊢
          generalize hg6 : wr.heap.size = g6 at hBC ⊢
          have R26 := Lib.hid (R2.out w6 hbC)
          have HBC := Lib.hid hBC
          have HbC := Lib.hid hbC
          have Hg6 := Lib.hid hg6
          clear hbC0 hBC hbC hg6
          go_upto_region 7 with (first
            | (with_reducible refine wpList_load_mid rfl 43 (.tmp 24) rfl b2 (o2 + i * 2) rfl D _ R26.out Tryd.underlying43 rfl ID.out ?_)
            | (with_reducible refine wpList_store_mid rfl 43 (.tmp 9) (.tmp 25) rfl w6.heap.size 0 D.toArray rfl rfl (there_new (Z := Z2) HZl.out N2.out) (info_arr ID.out) (all_oneCell_toArray O2.out) ?_))
          obtain ⟨hBD, hbD⟩ := laid_new (w := w6) (T := 43) HZl.out N2.out
          have hBC7 := HBC.out.below hbD HBC.out.lt
          have Hw7 := Lib.hid (Below.trans HbC.out (hbD.mono HbC.out.size))
          generalize (w6.alloc (.cells Z2.toArray 43)).setCells w6.heap.size 0 D = w7 at hBD hbD hBC7 Hw7 ⊢
          clear hbD
          generalize w6.heap.size = g7 at hBD ⊢
          have RC := Lib.hid hBC7.range
          have RD := Lib.hid hBD.range
          clear hBC7 hBD
          go_wp2_with (first
            | (with_reducible refine wpList_load_mid rfl 43 (.tmp 8) rfl g6 0 rfl C _ RC.out Tryd.underlying43 rfl IC.out ?_)
            | (with_reducible refine wpList_load_mid rfl 43 (.tmp 9) rfl g7 0 rfl D _ RD.out Tryd.underlying43 rfl ID.out ?_)
            | (go_at_call 45; (with_reducible refine (K.out _ Hw7.out).mono ?_); rintro e w8 ⟨rfl, hb8⟩; dsimp only))
          go_ret
          exact ⟨by rw [HT.out]; rfl, Hb.out.trans ((Hw7.out.trans (hb8.mono Hw7.out.size)).mono Hb.out.size)⟩
      · obtain rfl : i = lx := by omega
        have hlt' : ¬ (i : Int) < (i : Int) := by omega
        have HT : Hid (decide (xs = ys) = true) := show decide (xs = ys) = true by
          have := HE.out
          rw [List.take_of_length_le (by rw [← Hlx.out]; exact Nat.le_refl _), List.take_of_length_le (by rw [← Hly.out]; exact Nat.le_refl _)] at this
          simpa using this
        go_wp2_with fail
        go_ret
        exact ⟨by rw [HT.out]; rfl, hb⟩
  · have e1 : ((lx : Int) != (ly : Int)) = true := by simp; omega
    have HT : Hid (decide (xs = ys) = false) := show decide (xs = ys) = false by
      have : xs ≠ ys := fun e => hl (by rw [hlx, hly, e])
      simpa using this
    clear hl hlx hly
    go_enter Tryd.func44, Tryd.ntmps44
    go_wp2_with fail
    go_ret
    exact ⟨by rw [HT.out]; rfl, Hb0.out⟩
open Go.RowKit
set_option linter.unusedVariables false
set_option linter.unusedSimpArgs false
set_option maxRecDepth 100000
theorem tx_eq (x y : TTx) : (decide (x.ver = y.ver) && decide (x.lock = y.lock) && decide (x.ins = y.ins) && decide (x.outs = y.outs)) = decide (x = y) := by
  obtain ⟨a, b, c, d⟩ := x
  obtain ⟨a', b', c', d'⟩ := y
  rw [Bool.eq_iff_iff]
  simp
  constructor
  · rintro ⟨⟨⟨h1, h2⟩, h3⟩, h4⟩; exact ⟨h1, h3, h4, h2⟩
  · rintro ⟨h1, h3, h4, h2⟩; exact ⟨⟨⟨h1, h2⟩, h3⟩, h4⟩
set_option maxHeartbeats 4000000 in
theorem same_any (x y : TTx) (i o i2 o2 : Value) (w : World) (h1 : TxOk w w.heap.size x i o) (h2 : TxOk w w.heap.size y i2 o2) : Calls Tryd.prog 25 #[txV x i o, txV y i2 o2] w (EqPost (decide (x = y)) w) := by
  rw [← tx_eq]
  obtain ⟨hi, ho, _, _⟩ := h1
  obtain ⟨hi2, ho2, _, _⟩ := h2
  have K30 : Hid (∀ wq, Below w.heap.size w wq → Calls Tryd.prog 42 #[i, i2, .func (.func 43) #[] #[]] wq (EqPost (decide (x.ins = y.ins)) wq)) := fun wq hq => eqf_ins i i2 _ _ wq ((hi.keep hq (Nat.le_refl _)).up hq.size) ((hi2.keep hq (Nat.le_refl _)).up hq.size)
  have K32 : Hid (∀ wq, Below w.heap.size w wq → Calls Tryd.prog 44 #[o, o2, .func (.func 45) #[] #[]] wq (EqPost (decide (x.outs = y.outs)) wq)) := fun wq hq => eqf_outs o o2 _ _ wq ((ho.keep hq (Nat.le_refl _)).up hq.size) ((ho2.keep hq (Nat.le_refl _)).up hq.size)
  obtain ⟨A1, c1, rfl, _⟩ := hi
  obtain ⟨A2, c2, rfl, _⟩ := ho
  obtain ⟨A3, c3, rfl, _⟩ := hi2
  obtain ⟨A4, c4, rfl, _⟩ := ho2
  unfold txV
  obtain ⟨n1, hn1⟩ : ∃ n, n = x.ins.length := ⟨_, rfl⟩
  obtain ⟨n2, hn2⟩ : ∃ n, n = x.outs.length := ⟨_, rfl⟩
  obtain ⟨n3, hn3⟩ : ∃ n, n = y.ins.length := ⟨_, rfl⟩
  obtain ⟨n4, hn4⟩ : ∃ n, n = y.outs.length := ⟨_, rfl⟩
  rw [← hn1, ← hn3] at K30
  rw [← hn2, ← hn4] at K32
  rw [← hn1, ← hn2, ← hn3, ← hn4]
  obtain ⟨b1, hb1⟩ : ∃ b, b = decide (x.ins = y.ins) := ⟨_, rfl⟩
  obtain ⟨b2, hb2⟩ : ∃ b, b = decide (x.outs = y.outs) := ⟨_, rfl⟩
  rw [← hb1] at K30 ⊢
  rw [← hb2] at K32 ⊢
  have HB : Hid (Below w.heap.size w ((w.alloc (.cells #[.int .u32 (x.ver : Int), .slice A1 n1 c1, .slice A2 n2 c2, .int .u32 (x.lock : Int)] 26)).alloc (.cells #[.int .u32 (y.ver : Int), .slice A3 n3 c3, .slice A4 n4 c4, .int .u32 (y.lock : Int)] 26))) := ((Below.refl w.heap.size w).alloc (Nat.le_refl _) _).alloc (by simp) _
  clear hn1 hn2 hn3 hn4 hb1 hb2
  by_cases hv : x.ver = y.ver
  · have e1 : ((x.ver : Int) == (y.ver : Int)) = true := by simp [hv]
    have d1 : decide (x.ver = y.ver) = true := by simpa using hv
    rw [d1]
    clear hv d1
    by_cases hk : x.lock = y.lock
    · have e2 : ((x.lock : Int) == (y.lock : Int)) = true := by simp [hk]
      have d2 : decide (x.lock = y.lock) = true := by simpa using hk
      rw [d2]
      clear hk d2
      cases b1 with
      | false =>
        go_enter Tryd.func25, Tryd.ntmps25
        go_wp2_with (go_at_call 42; (with_reducible refine (K30.out _ HB.out).mono ?_); rintro e w2 ⟨rfl, hb2⟩; dsimp only)
        go_ret
        exact ⟨by simp, HB.out.trans (hb2.mono HB.out.size)⟩
      | true =>
        go_enter Tryd.func25, Tryd.ntmps25
        go_wp2_with (first
          | (go_at_call 42; (with_reducible refine (K30.out _ HB.out).mono ?_); rintro e w2 ⟨rfl, hb2⟩; have HB2 : Hid (Below w.heap.size w w2) := HB.out.trans (hb2.mono HB.out.size); have d1 : w2.cell? ⟨w.heap.size, 2, none⟩ = some (.slice A2 n2 c2) := (by rw [hb2.cell (p := ⟨w.heap.size, 2, none⟩) (by simp; omega)]; exact cell_alloc _ (cell_new rfl rfl)); have d2 : w2.cell? ⟨w.heap.size + 1, 2, none⟩ = some (.slice A4 n4 c4) := (by rw [hb2.cell (p := ⟨w.heap.size + 1, 2, none⟩) (by simp)]; exact cell_new (by simp) rfl); clear hb2; dsimp only)
          | (go_at_call 44; (with_reducible refine (K32.out _ HB2.out).mono ?_); rintro e w3 ⟨rfl, hb3⟩; dsimp only))
        go_ret
        exact ⟨by simp, HB2.out.trans (hb3.mono HB2.out.size)⟩
    · have e2 : ((x.lock : Int) == (y.lock : Int)) = false := by simp; omega
      have d2 : decide (x.lock = y.lock) = false := by simpa using hk
      rw [d2]
      clear hk d2
      go_enter Tryd.func25, Tryd.ntmps25
      go_wp2_with fail
      go_ret
      exact ⟨by simp, HB.out⟩
  · have e1 : ((x.ver : Int) == (y.ver : Int)) = false := by simp; omega
    have d1 : decide (x.ver = y.ver) = false := by simpa using hv
    rw [d1]
    clear hv d1
    go_enter Tryd.func25, Tryd.ntmps25
    go_wp2_with fail
    go_ret
    exact ⟨by simp, HB.out⟩
open Go.RowKit
set_option linter.unusedSimpArgs false
theorem inV_oneO {w : World} {B : Nat} {x : TIn} {s u : Value} (h : InOk w B x s u) : ∀ v ∈ inV x s u, v.oneCell' = true := by
  obtain ⟨⟨A, c, rfl, _⟩, ⟨A2, c2, rfl, _⟩, _⟩ := h
  intro v hv
  rcases List.mem_append.1 hv with h | h
  · exact vbs_one _ _ h
  · simp at h
    rcases h with rfl | rfl | rfl | rfl <;> rfl
open Go.RowKit
set_option linter.unusedVariables false
set_option linter.unusedSimpArgs false
set_option maxRecDepth 100000
theorem many_any (n : Nat) (w : World) : Calls Tryd.prog 35 #[.int .i64 (n : Int)] w fun e w' => e = .returned (.int .i64 (fitE n)) ∧ w = w' := by
  by_cases h0 : n = 0
  · subst h0
    go_enter Tryd.func35, Tryd.ntmps35
    go_wp2
    go_ret
    exact ⟨rfl, rfl⟩
  · have h1 : ((n : Int) == 0) = false := by simp; omega
    by_cases h2 : 16 < n
    · have e : fitE n = 3 := by unfold fitE; rw [if_neg h0, if_pos h2]
      have h3 : (16 : Int) < (n : Int) := by omega
      rw [e]
      clear e h0 h2
      go_enter Tryd.func35, Tryd.ntmps35
      go_wp2
      go_ret
      exact ⟨rfl, rfl⟩
    · have e : fitE n = 0 := by unfold fitE; rw [if_neg h0, if_neg h2]
      have h3 : ¬ (16 : Int) < (n : Int) := by omega
      rw [e]
      clear e h0 h2
      go_enter Tryd.func35, Tryd.ntmps35
      go_wp2
      go_ret
      exact ⟨rfl, rfl⟩
theorem any_getD {α : Type} (f : α → Bool) (l : List α) (d : α) (i : Nat) (hi : i < l.length) (h : f (l.getD i d) = true) : l.any f = true :=
  List.any_eq_true.2 ⟨_, getD_mem l d i hi, h⟩
theorem none_getD {α : Type} (f : α → Bool) (l : List α) (d : α) (h : ∀ i, i < l.length → f (l.getD i d) = false) : l.any f = false := by
  apply List.any_eq_false.2
  intro x hx
  obtain ⟨i, hi, rfl⟩ := List.getElem_of_mem hx
  have := h i hi
  simp [List.getD, hi] at this
  simp [this]
theorem next_false {P : Nat → Bool} {k : Nat} (h : ∀ j, j < k → P j = false) (hk : P k = false) : ∀ j, j < k + 1 → P j = false := fun j hj => by
  by_cases e : j = k
  · rw [e]; exact hk
  · exact h j (by omega)
theorem rcheck_at (xs : List TIn) (ys : List TOut) (A1 A2 : Option Addr) (c1 c2 : Nat) (n1 n2 : Nat) (V Lk : Int) (w : World) (hn1 : n1 = xs.length) (hn2 : n2 = ys.length) (h1 : Is w w.heap.size (.slice A1 n1 c1) xs) (h2 : Os w w.heap.size (.slice A2 n2 c2) ys)
    (f1 : fitE n1 = 0) (f2 : fitE n2 = 0) :
    Calls Tryd.prog 13 #[.agg #[.int .u32 V, .slice A1 n1 c1, .slice A2 n2 c2, .int .u32 Lk]] w (IntPost (if xs.any lngIn = true ∨ ys.any lngOut = true then 3 else 0) w) := by
  obtain ⟨A, c, b, o, e1, hA, hr⟩ := Row.open h1
  obtain ⟨A', c', b2, o2, e2, hA2, hr2⟩ := Row.open h2
  have hc1 : n1 ≤ 9223372036854775807 := by obtain ⟨_, _, e, h3, h4, _⟩ := h1; cases e; omega
  have hc2 : n2 ≤ 9223372036854775807 := by obtain ⟨_, _, e, h3, h4, _⟩ := h2; cases e; omega
  subst hn1 hn2
  cases e1
  cases e2
  obtain ⟨w1, hw1⟩ : ∃ w1, w1 = w.alloc (.cells #[.int .u32 V, .slice A1 xs.length c1, .slice A2 ys.length c2, .int .u32 Lk] 26) := ⟨_, rfl⟩
  have hb1 : Below w.heap.size w w1 := by rw [hw1]; exact (Below.refl _ _).alloc (Nat.le_refl _) _
  obtain ⟨C, hC⟩ : ∃ C : Int, C = if xs.any lngIn = true ∨ ys.any lngOut = true then 3 else 0 := ⟨_, rfl⟩
  have E1 : Hid (∀ i, i < xs.length → lngIn (xs.getD i In0) = true → C = 3) := fun i hi h => by rw [hC, if_pos (Or.inl (any_getD lngIn xs In0 i hi h))]
  have E2 : Hid (∀ i, i < ys.length → lngOut (ys.getD i Out0) = true → C = 3) := fun i hi h => by rw [hC, if_pos (Or.inr (any_getD lngOut ys Out0 i hi h))]
  have E0 : Hid ((∀ i, i < xs.length → lngIn (xs.getD i In0) = false) → (∀ i, i < ys.length → lngOut (ys.getD i Out0) = false) → C = 0) := fun h h' => by
    rw [hC, if_neg]
    rw [none_getD lngIn xs In0 h, none_getD lngOut ys Out0 h']
    simp
  have HX : Hid (∀ i, i < xs.length → A1 = some ⟨b, o, none⟩ ∧ ∃ As ls cs Aw lw cw, w1.cell? ⟨b, o + i * 36 + 33, none⟩ = some (.slice As ls cs) ∧ w1.cell? ⟨b, o + i * 36 + 35, none⟩ = some (.slice Aw lw cw) ∧ ls ≤ 9223372036854775807 ∧ lw ≤ 9223372036854775807 ∧
      (lngIn (xs.getD i In0) = (decide (128 < ls) || decide (8 < lw) || (xs.getD i In0).wt.any lng)) ∧ (xs.getD i In0).wt.length = lw ∧
      ∀ k, k < lw → ∃ wb wo At lt ct, Aw = some ⟨wb, wo, none⟩ ∧ w1.cell? ⟨wb, wo + k, none⟩ = some (.slice At lt ct) ∧ lt ≤ 9223372036854775807 ∧ lng ((xs.getD i In0).wt.getD k []) = decide (128 < lt)) := fun i hi => by
    obtain ⟨hlt, s, u, hc, ⟨hs, hu, h32, _, _⟩⟩ := hr i hi
    obtain ⟨_, e33, _, e35⟩ := inV_at (x := xs.getD i In0) (s := s) (v := u) h32
    obtain ⟨As, cs, rfl, _, _, _, _⟩ := hs
    obtain ⟨Aw, cw, wb, wo, rfl, hAw, hww⟩ := Row.open hu
    have hm : (xs.getD i In0).wt.length ≤ 9223372036854775807 := by obtain ⟨_, _, e, h3, h4, _⟩ := hu; cases e; omega
    refine ⟨hA (by omega), As, _, cs, Aw, _, cw, by rw [hb1.cell (p := ⟨b, o + i * 36 + 33, none⟩) hlt]; exact hc 33 _ e33, by rw [hb1.cell (p := ⟨b, o + i * 36 + 35, none⟩) hlt]; exact hc 35 _ e35, by omega, hm, rfl, rfl, fun k hk => ?_⟩
    obtain ⟨hwl, t, hct, At, ct, rfl, _, _, _, _⟩ := hww k hk
    rw [Nat.mul_one] at hct
    exact ⟨wb, wo, At, _, ct, hAw (by omega), by rw [hb1.cell (p := ⟨wb, wo + k, none⟩) hwl]; exact hct, by omega, rfl⟩
  have HY : Hid (∀ i, i < ys.length → A2 = some ⟨b2, o2, none⟩ ∧ ∃ As ls cs, w1.cell? ⟨b2, o2 + i * 2 + 1, none⟩ = some (.slice As ls cs) ∧ ls ≤ 9223372036854775807 ∧ lngOut (ys.getD i Out0) = decide (128 < ls)) := fun i hi => by
    obtain ⟨hlt, s, hc, hs, _, _⟩ := hr2 i hi
    obtain ⟨As, cs, rfl, _, _, _, _⟩ := hs
    exact ⟨hA2 (by omega), As, _, cs, by rw [hb1.cell (p := ⟨b2, o2 + i * 2 + 1, none⟩) hlt]; exact hc 1 _ rfl, by omega, rfl⟩
  have M1 := Lib.hid (many_any xs.length)
  have M2 := Lib.hid (many_any ys.length)
  rw [f1] at M1
  rw [f2] at M2
  rw [← hC]
  obtain ⟨n1, hn1⟩ : ∃ n, n = xs.length := ⟨_, rfl⟩
  obtain ⟨n2, hn2⟩ : ∃ n, n = ys.length := ⟨_, rfl⟩
  rw [← hn1] at HX hc1 hw1 E1 E0 M1 ⊢
  rw [← hn2] at HY hc2 hw1 E2 E0 M2 ⊢
  have hT1 : w1.cell? ⟨w.heap.size, 1, none⟩ = some (.slice A1 n1 c1) := by rw [hw1]; exact cell_new rfl rfl
  have hT2 : w1.cell? ⟨w.heap.size, 2, none⟩ = some (.slice A2 n2 c2) := by rw [hw1]; exact cell_new rfl rfl
  have Hb1 := Lib.hid hb1
  clear hr hr2 hA hA2 h1 h2 hn1 hn2 hb1 hC f1 f2
  go_enter Tryd.func13, Tryd.ntmps13
  go_upto_region 1 with fail
  rw [← hw1]
  generalize w.heap.size = tb at hT1 hT2 ⊢
  clear hw1
  go_wp2_with (first
    | (go_at_call 35; (with_reducible refine (M1.out _).mono ?_); rintro e w' ⟨rfl, rfl⟩; dsimp only)
    | (go_at_call 35; (with_reducible refine (M2.out _).mono ?_); rintro e w' ⟨rfl, rfl⟩; dsimp only))
  go_loop [4] (fun iv => ∃ i : Nat, i ≤ n1 ∧ iv = .int .i64 (i : Int) ∧ ∀ j, j < i → lngIn (xs.getD j In0) = false) (fun iv => n1 - (intOf iv).toNat)
  case atStart => exact ⟨0, Nat.zero_le _, rfl, fun j h => by omega⟩
  case round =>
    obtain ⟨i, hi, rfl, hj0⟩ := hrel
    have HJ := Lib.hid hj0
    clear hj0
    by_cases hi1 : i < n1
    · have hi2 : (i : Int) < (n1 : Int) := by omega
      obtain ⟨rfl, As, ls, cs, Aw, lw, cw, cc, cd, hls, hlw, hL, hwl, hk⟩ := HX.out i hi1
      have HK := Lib.hid hk
      have HLg := Lib.hid hL
      have HWl := Lib.hid hwl
      clear hk hL hwl
      by_cases q : 128 < ls
      · have q1 : (128 : Int) < (ls : Int) := by omega
        go_wp2_with fail
        go_ret
        exact ⟨by rw [E1.out i hi1 (by rw [HLg.out]; simp [q])]; rfl, Hb1.out⟩
      · have q1 : ¬ (128 : Int) < (ls : Int) := by omega
        by_cases q2 : 8 < lw
        · have q3 : (8 : Int) < (lw : Int) := by omega
          go_wp2_with fail
          go_ret
          exact ⟨by rw [E1.out i hi1 (by rw [HLg.out]; simp [q2])]; rfl, Hb1.out⟩
        · have q3 : ¬ (8 : Int) < (lw : Int) := by omega
          go_wp2_with fail
          go_loop [5] (fun kv => ∃ k : Nat, k ≤ lw ∧ kv = .int .i64 (k : Int) ∧ ∀ j, j < k → lng ((xs.getD i In0).wt.getD j []) = false) (fun kv => lw - (intOf kv).toNat)
          case atStart => exact ⟨0, Nat.zero_le _, rfl, fun j h => by omega⟩
          case round =>
            obtain ⟨k, hk, rfl, hkj⟩ := hrel
            have HKJ := Lib.hid hkj
            clear hkj
            by_cases hk1 : k < lw
            · have hk2 : (k : Int) < (lw : Int) := by omega
              obtain ⟨wb, wo, At, lt, ct, rfl, ce, hlt, hlg⟩ := HK.out k hk1
              have HLt := Lib.hid hlg
              clear hlg
              by_cases q4 : 128 < lt
              · have q5 : (128 : Int) < (lt : Int) := by omega
                go_wp2_with fail
                go_ret
                exact ⟨by rw [E1.out i hi1 (by rw [HLg.out, any_getD lng _ [] k (by rw [HWl.out]; exact hk1) (by rw [HLt.out]; simp [q4])]; simp)]; rfl, Hb1.out⟩
              · have q5 : ¬ (128 : Int) < (lt : Int) := by omega
                go_wp2_with fail
                go_round
                case rel => exact ⟨k + 1, by omega, by go_num, next_false (P := fun k => lng ((xs.getD i In0).wt.getD k [])) HKJ.out (by rw [HLt.out]; simp [q4])⟩
                case measure => simp [intOf]; omega
            · have hk2 : ¬ (k : Int) < (lw : Int) := by omega
              go_wp2_with fail
              go_round
              case rel => exact ⟨i + 1, by omega, by go_num, next_false (P := fun i => lngIn (xs.getD i In0)) HJ.out (by rw [HLg.out, none_getD lng _ [] (fun m hm => HKJ.out m (by rw [HWl.out] at hm; omega))]; simp [q, q2])⟩
              case measure => simp [intOf]; omega
    · have hi2 : ¬ (i : Int) < (n1 : Int) := by omega
      go_wp2_with fail
      go_loop [6] (fun iv => ∃ i : Nat, i ≤ n2 ∧ iv = .int .i64 (i : Int) ∧ ∀ j, j < i → lngOut (ys.getD j Out0) = false) (fun iv => n2 - (intOf iv).toNat)
      case atStart => exact ⟨0, Nat.zero_le _, rfl, fun j h => by omega⟩
      case round =>
        obtain ⟨j, hj, rfl, hjj⟩ := hrel
        have HJJ := Lib.hid hjj
        clear hjj
        by_cases hj1 : j < n2
        · have hj2 : (j : Int) < (n2 : Int) := by omega
          obtain ⟨rfl, As, ls, cs, cc, hls, hlo⟩ := HY.out j hj1
          have HLo := Lib.hid hlo
          clear hlo
          by_cases q : 128 < ls
          · have q1 : (128 : Int) < (ls : Int) := by omega
            go_wp2_with fail
            go_ret
            exact ⟨by rw [E2.out j hj1 (by rw [HLo.out]; simp [q])]; rfl, Hb1.out⟩
          · have q1 : ¬ (128 : Int) < (ls : Int) := by omega
            go_wp2_with fail
            go_round
            case rel => exact ⟨j + 1, by omega, by go_num, next_false (P := fun j => lngOut (ys.getD j Out0)) HJJ.out (by rw [HLo.out]; simp [q])⟩
            case measure => simp [intOf]; omega
        · have hj2 : ¬ (j : Int) < (n2 : Int) := by omega
          go_wp2_with fail
          go_ret
          exact ⟨by rw [E0.out (fun m hm => HJ.out m (by omega)) (fun m hm => HJJ.out m (by omega))]; rfl, Hb1.out⟩
theorem rcheck_no (n1 n2 : Nat) (A1 A2 : Option Addr) (c1 c2 : Nat) (V Lk e1 : Int) (w : World) (h : (fitE n1 = e1 ∧ e1 ≠ 0) ∨ (fitE n1 = 0 ∧ fitE n2 = e1 ∧ e1 ≠ 0)) :
    Calls Tryd.prog 13 #[.agg #[.int .u32 V, .slice A1 n1 c1, .slice A2 n2 c2, .int .u32 Lk]] w (IntPost e1 w) := by
  have M1 := Lib.hid (many_any n1)
  have M2 := Lib.hid (many_any n2)
  have HB : Hid (Below w.heap.size w (w.alloc (.cells #[.int .u32 V, .slice A1 n1 c1, .slice A2 n2 c2, .int .u32 Lk] 26))) := (Below.refl _ _).alloc (Nat.le_refl _) _
  rcases h with ⟨f1, hne⟩ | ⟨f1, f2, hne⟩
  · rw [f1] at M1
    have d1 : (e1 == 0) = false := by simpa using hne
    have d2 : (e1 != 0) = true := by simpa using hne
    clear f1 hne
    go_enter Tryd.func13, Tryd.ntmps13
    go_wp2_with (go_at_call 35; (with_reducible refine (M1.out _).mono ?_); rintro e w' ⟨rfl, rfl⟩; dsimp only)
    go_ret
    exact ⟨rfl, HB.out⟩
  · rw [f1] at M1
    rw [f2] at M2
    have d2 : (e1 != 0) = true := by simpa using hne
    clear f1 f2 hne
    go_enter Tryd.func13, Tryd.ntmps13
    go_wp2_with (first
      | (go_at_call 35; (with_reducible refine (M1.out _).mono ?_); rintro e w' ⟨rfl, rfl⟩; dsimp only)
      | (go_at_call 35; (with_reducible refine (M2.out _).mono ?_); rintro e w' ⟨rfl, rfl⟩; dsimp only))
    go_ret
    exact ⟨rfl, HB.out⟩
theorem rcheck_any (t : TTx) (i o : Value) (w : World) (h : TxOk w w.heap.size t i o) : Calls Tryd.prog 13 #[txV t i o] w (IntPost (chk t) w) := by
  obtain ⟨hi, ho, _, _⟩ := h
  have hi' := hi
  have ho' := ho
  obtain ⟨A1, c1, rfl, _⟩ := hi
  obtain ⟨A2, c2, rfl, _⟩ := ho
  unfold chk
  by_cases f1 : fitE t.ins.length = 0
  · rw [if_neg (by simpa using f1)]
    by_cases f2 : fitE t.outs.length = 0
    · rw [if_neg (by simpa using f2)]
      exact rcheck_at t.ins t.outs A1 A2 c1 c2 _ _ _ _ w rfl rfl hi' ho' f1 f2
    · rw [if_pos f2]
      exact rcheck_no _ _ _ _ _ _ _ _ _ w (Or.inr ⟨f1, rfl, f2⟩)
  · rw [if_pos f1]
    exact rcheck_no _ _ _ _ _ _ _ _ _ w (Or.inl ⟨rfl, f1⟩)
theorem rwit_at (xs : List TIn) (A1 A2 : Option Addr) (c1 c2 : Nat) (n1 n2 : Nat) (V Lk : Int) (w : World) (hn1 : n1 = xs.length) (h1 : Is w w.heap.size (.slice A1 n1 c1) xs) :
    Calls Tryd.prog 15 #[.agg #[.int .u32 V, .slice A1 n1 c1, .slice A2 n2 c2, .int .u32 Lk]] w (BoolPost (xs.any wit) w) := by
  obtain ⟨A, c, b, o, e1, hA, hr⟩ := Row.open h1
  have hc1 : n1 ≤ 9223372036854775807 := by obtain ⟨_, _, e, h3, h4, _⟩ := h1; cases e; omega
  subst hn1
  cases e1
  obtain ⟨w1, hw1⟩ : ∃ w1, w1 = w.alloc (.cells #[.int .u32 V, .slice A1 xs.length c1, .slice A2 n2 c2, .int .u32 Lk] 26) := ⟨_, rfl⟩
  have hb1 : Below w.heap.size w w1 := by rw [hw1]; exact (Below.refl _ _).alloc (Nat.le_refl _) _
  obtain ⟨C, hC⟩ : ∃ C : Bool, C = xs.any wit := ⟨_, rfl⟩
  have E1 : Hid (∀ i, i < xs.length → wit (xs.getD i In0) = true → C = true) := fun i hi h => by rw [hC, any_getD wit xs In0 i hi h]
  have E0 : Hid ((∀ i, i < xs.length → wit (xs.getD i In0) = false) → C = false) := fun h => by rw [hC, none_getD wit xs In0 h]
  have HX : Hid (∀ i, i < xs.length → A1 = some ⟨b, o, none⟩ ∧ ∃ Aw lw cw, w1.cell? ⟨b, o + i * 36 + 35, none⟩ = some (.slice Aw lw cw) ∧ wit (xs.getD i In0) = decide (0 < lw)) := fun i hi => by
    obtain ⟨hlt, s, u, hc, ⟨hs, hu, h32, _, _⟩⟩ := hr i hi
    obtain ⟨_, e33, _, e35⟩ := inV_at (x := xs.getD i In0) (s := s) (v := u) h32
    obtain ⟨Aw, cw, wb, wo, rfl, hAw, hww⟩ := Row.open hu
    exact ⟨hA (by omega), Aw, _, cw, by rw [hb1.cell (p := ⟨b, o + i * 36 + 35, none⟩) hlt]; exact hc 35 _ e35, rfl⟩
  rw [← hC]
  obtain ⟨n1, hn1⟩ : ∃ n, n = xs.length := ⟨_, rfl⟩
  rw [← hn1] at HX hc1 hw1 E1 E0 ⊢
  have hT1 : w1.cell? ⟨w.heap.size, 1, none⟩ = some (.slice A1 n1 c1) := by rw [hw1]; exact cell_new rfl rfl
  have Hb1 := Lib.hid hb1
  clear hr hA h1 hn1 hb1 hC
  go_enter Tryd.func15, Tryd.ntmps15
  go_upto_region 1 with fail
  rw [← hw1]
  generalize w.heap.size = tb at hT1 ⊢
  clear hw1
  go_wp2_with fail
  go_loop [3] (fun iv => ∃ i : Nat, i ≤ n1 ∧ iv = .int .i64 (i : Int) ∧ ∀ j, j < i → wit (xs.getD j In0) = false) (fun iv => n1 - (intOf iv).toNat)
  case atStart => exact ⟨0, Nat.zero_le _, rfl, fun j h => by omega⟩
  case round =>
    obtain ⟨i, hi, rfl, hj0⟩ := hrel
    have HJ := Lib.hid hj0
    clear hj0
    by_cases hi1 : i < n1
    · have hi2 : (i : Int) < (n1 : Int) := by omega
      obtain ⟨rfl, Aw, lw, cw, cd, hwt⟩ := HX.out i hi1
      have HWt := Lib.hid hwt
      clear hwt
      by_cases q : 0 < lw
      · have q1 : (0 : Int) < (lw : Int) := by omega
        go_wp2_with fail
        go_ret
        exact ⟨by rw [E1.out i hi1 (by rw [HWt.out]; simp [q])]; rfl, Hb1.out⟩
      · have q1 : ¬ (0 : Int) < (lw : Int) := by omega
        go_wp2_with fail
        go_round
        case rel => exact ⟨i + 1, by omega, by go_num, next_false (P := fun i => wit (xs.getD i In0)) HJ.out (by rw [HWt.out]; simpa using q)⟩
        case measure => simp [intOf]; omega
    · have hi2 : ¬ (i : Int) < (n1 : Int) := by omega
      go_wp2_with fail
      go_ret
      exact ⟨by rw [E0.out (fun m hm => HJ.out m (by omega))]; rfl, Hb1.out⟩
theorem rwit_any (t : TTx) (i o : Value) (w : World) (h : TxOk w w.heap.size t i o) : Calls Tryd.prog 15 #[txV t i o] w (BoolPost (witd t) w) := by
  obtain ⟨hi, ho, _, _⟩ := h
  have hi' := hi
  obtain ⟨A1, c1, rfl, _⟩ := hi
  obtain ⟨A2, c2, rfl, _⟩ := ho
  exact rwit_at t.ins A1 A2 c1 c2 _ _ _ _ w rfl hi'

open Go.RowKit
set_option linter.unusedVariables false
set_option linter.unusedSimpArgs false
set_option maxRecDepth 100000
theorem rdig_any (m n : Nat) (w : World) (hm : m ≤ 8) (hn : n < 18446744073709551616) : Calls Tryd.prog 49 #[.int .i64 (m : Int), .int .u64 (n : Int)] w (LaidPost (les n m) w) := by
  have K := Lib.hid (digits_any m n w hm hn)
  clear hm hn
  go_enter Tryd.func49, Tryd.ntmps49
  go_wp2_with (go_at_call 75; (refine K.out.mono ?_); rintro e w2 ⟨v, rfl, ho, hb⟩; have HO := Lib.hid ho; have HB := Lib.hid hb; clear ho hb; dsimp only)
  go_ret
  exact ⟨_, rfl, HO.out, HB.out⟩
theorem form_small {n : Nat} (h : n < 253) : form n = [BitVec.ofNat 8 n] := by
  unfold form fst wid
  simp [h, les]
theorem ob_one (w : World) (x : BitVec 8) : OB (w.alloc (.cells #[.int .u8 (Bt x)] 5)) w.heap.size (.slice (some ⟨w.heap.size, 0, none⟩) 1 1) [x] := by
  refine ⟨rfl, .inr ⟨w.heap.size, 1, #[.int .u8 (Bt x)], rfl, Nat.le_refl _, heap_alloc_new w _, by simp, by unfold maxLen; omega, rfl, rfl⟩⟩
theorem rcount_any (n : Nat) (w : World) (hn : n < 253) : Calls Tryd.prog 50 #[.int .u64 (n : Int)] w (LaidPost (form n) w) := by
  rw [form_small hn]
  obtain ⟨x, hx⟩ : ∃ x, x = BitVec.ofNat 8 n := ⟨_, rfl⟩
  rw [← hx]
  have hw : IntKind.u8.wrap (n : Int) = Bt x := by
    rw [hx, IntKind.wrap_u8']
    unfold Bt
    rw [BitVec.toNat_ofNat]
    omega
  have h1 : (n : Int) < 253 := by omega
  have HO := Lib.hid (ob_one w x)
  have HB : Hid (Below w.heap.size w (w.alloc (.cells #[.int .u8 (Bt x)] 5))) := (Below.refl _ _).alloc (Nat.le_refl _) _
  clear hx hn
  go_enter Tryd.func50, Tryd.ntmps50
  go_wp2_with fail
  go_ret
  exact ⟨_, rfl, HO.out, HB.out⟩
theorem rtext5_any (A : Option Addr) (L : List (BitVec 8)) (n cap : Nat) (w : World) (hn : L.length = n) (hR : Rd w w.heap.size A L) (hA : A = none → cap = 0) (h : n < 253) : Calls Tryd.prog 51 #[.slice A n cap] w (LaidPost (txt L) w) := by
  have K := Lib.hid (rcount_any n w h)
  have hw : IntKind.u64.wrap (n : Int) = (n : Int) := by rw [IntKind.wrap_u64]; omega
  have HR := Lib.hid hR
  have HA := Lib.hid hA
  have HN := Lib.hid hn
  have hfl : (form n).length = 1 := by rw [form_small h]; rfl
  have HF := Lib.hid hfl
  have HT : Hid (txt L = form n ++ L) := show txt L = form n ++ L by unfold txt; rw [hn]
  rw [HT.out]
  clear hR hA hn hfl
  go_enter Tryd.func51, Tryd.ntmps51
  go_wp2_with (first
    | (go_at_call 50; (refine K.out.mono ?_); rintro e w2 ⟨v, rfl, ho, hb⟩; have HO := Lib.hid ho; have HB := Lib.hid hb; have HS : Hid (Src22 w2 A L.length (vbs L)) := src_of_rd (HR.out.keep hb); clear ho hb; dsimp only)
    | (refine wpList_push (o := ⟨some 10, _, _, _, _, _⟩) rfl (.tmp 8) (.tmp 9) rfl rfl w.heap.size _ (form n) L rfl HO.out A n cap rfl HN.out.symm HS.out HA.out (by rw [HF.out, HN.out]; omega) HB.out HB.out.size (Nat.le_refl _) ?_; intro v3 w3 h1 h2 h3))
  go_ret
  exact ⟨_, rfl, h1, h2⟩

open Go.RowKit
set_option linter.unusedVariables false
set_option linter.unusedSimpArgs false
set_option maxRecDepth 100000
/-- All that lay in W1 is as it was; the call's row v has the bytes L. -/
structure LQ (W1 : World) (v : Value) (L : List (BitVec 8)) (wq : World) : Prop where
  sb : SB W1 wq
  ob : OB wq W1.heap.size v L
theorem LQ.next {W1 wq w2 : World} {v : Value} {L : List (BitVec 8)} (H : LQ W1 v L wq) (hb : Below wq.heap.size wq w2) : LQ W1 v L w2 := ⟨SB.next H.sb hb, OB.below (B' := 0) H.ob hb⟩
theorem own_ne' {w : World} {B cb g T : Nat} {v : Value} {vs : List Value} {L : List (BitVec 8)} (h : OB w B v L) (hb : Blk w cb T vs) (hT : T ≠ 5) (hg : v.ownBlock = some g) : g ≠ cb := by
  intro e
  subst e
  rcases h.2 with ⟨rfl, _⟩ | ⟨g', cap, cur, rfl, _, hgg, _⟩
  · simp [Value.ownBlock] at hg
  · have : g' = g := by simpa [Value.ownBlock] using hg
    subst this
    unfold Blk at hb
    rw [hgg] at hb
    simp at hb
    exact hT hb.2.symm
/-- An append to the call's own row; blocks of other types stay. -/
theorem wpList_pushT {w W1 : World} {ops : Array Oper} {rest : List Oper} {o : Oper} {a : Act} {Q : Exit → Act → World → Prop} (hgd : o.guard = none) (s x : Operand) (ho : o.op = .call { callee := .builtin .append, args := #[s, x], argTypes := #[27, 27] }) (hty : o.type = 27)
    (v : Value) (L M : List (BitVec 8)) (hs : a.eval s = v) (H : LQ W1 v L w) (A : Option Addr) (m c : Nat) (hx : a.eval x = .slice A m c) (hm : m = M.length) (hsr : Src22 w A M.length (vbs M)) (hc : A = none → c = 0) (hb : L.length + M.length ≤ 140737488355328)
    (h : ∀ v' w', LQ W1 v' (L ++ M) w' → w.heap.size ≤ w'.heap.size → (∀ cb T vs, T ≠ 5 → Blk w cb T vs → Blk w' cb T vs) → wpList Tryd.prog ops Q rest (a.put o.dst v') w') : wpList Tryd.prog ops Q (o :: rest) a w := by
  subst hm
  exact wpList_app hgd s x ho hty W1.heap.size v L.length (vbs L) hs H.ob A M.length c (vbs M) hx hsr hc hb H.sb.size fun v' w' h2 h3 => by
    have hA := OB.app H.ob H.sb H.sb.size (Nat.le_refl _) h2 h3
    exact h v' w' ⟨hA.2, hA.1⟩ h3.size fun cb T vs hT hbk => hbk.grown h3 (fun e => own_ne' H.ob hbk hT e.symm rfl)
theorem rdig_w (m n : Nat) (w : World) (hm : m ≤ 8) (hn : n < 18446744073709551616) : Calls Tryd.prog 49 #[.int .i64 (m : Int), .int .u64 (n : Int)] w fun e w' => ∃ A c, e = .returned (.slice A m c) ∧ Src22 w' A (les n m).length (vbs (les n m)) ∧ (A = none → c = 0) ∧ Below w.heap.size w w' :=
  (rdig_any m n w hm hn).mono fun e w' ⟨v, he, ho, hb⟩ => by
    obtain ⟨A, c, rfl, hr, hc⟩ := slice_form ho
    have hs := src_of_rd hr
    rw [les_len] at he
    exact ⟨A, c, he, hs, hc, hb⟩
theorem rcount_w (n : Nat) (w : World) (hn : n < 253) : Calls Tryd.prog 50 #[.int .u64 (n : Int)] w fun e w' => ∃ A c, e = .returned (.slice A 1 c) ∧ Src22 w' A (form n).length (vbs (form n)) ∧ (A = none → c = 0) ∧ Below w.heap.size w w' :=
  (rcount_any n w hn).mono fun e w' ⟨v, he, ho, hb⟩ => by
    obtain ⟨A, c, rfl, hr, hc⟩ := slice_form ho
    have hs := src_of_rd hr
    have : (form n).length = 1 := by rw [form_small hn]; rfl
    rw [this] at he
    exact ⟨A, c, he, hs, hc, hb⟩
theorem rtext5_w (A : Option Addr) (L : List (BitVec 8)) (n m cap : Nat) (w : World) (hn : L.length = n) (hm : (txt L).length = m) (hR : Rd w w.heap.size A L) (hA : A = none → cap = 0) (h : n < 253) : Calls Tryd.prog 51 #[.slice A n cap] w fun e w' => ∃ A2 c, e = .returned (.slice A2 m c) ∧ Src22 w' A2 (txt L).length (vbs (txt L)) ∧ (A2 = none → c = 0) ∧ Below w.heap.size w w' :=
  (rtext5_any A L n cap w hn hR hA h).mono fun e w' ⟨v, he, ho, hb⟩ => by
    obtain ⟨A, c, rfl, hr, hc⟩ := slice_form ho
    have hs := src_of_rd hr
    rw [hm] at he
    exact ⟨A, c, he, hs, hc, hb⟩
theorem sl_src {W1 wq : World} {v : Value} {L : List (BitVec 8)} (h : Sl W1 W1.heap.size v L) (hs : SB W1 wq) : ∃ A c, v = .slice A L.length c ∧ Rd wq wq.heap.size A L ∧ (A = none → c = 0) := by
  obtain ⟨A, c, rfl, hr, _, _, hc⟩ := h
  exact ⟨A, c, rfl, (hr.keep' hs (Nat.le_refl _)).up hs.size, hc⟩
/-- The zero value of an input. -/
def zIn : List Value := inV ⟨Z32, 0, [], 0, []⟩ (.slice none 0 0) (.slice none 0 0)
theorem zero57 : ∀ w, (zeroValue 57).run Tryd.prog w = .ok (.agg zIn.toArray) w := fun _ => by kernel_rfl
theorem inV_len5 {x : TIn} {s u : Value} (h : x.tx.length = 32) : (inV x s u).length = 36 := by simp [inV, vbs_len, h]
theorem info57x {x : TIn} {s u : Value} (h : x.tx.length = 32) : (Tryd.prog.info? 57).map (·.size) = some (inV x s u).length := by rw [inV_len5 h]; kernel_rfl
theorem info57v {x : TIn} {s u : Value} (h : x.tx.length = 32) : (Tryd.prog.info? 57).map (·.size) = some (inV x s u).toArray.size := by rw [List.size_toArray]; exact info57x h
theorem inV_one5 {x : TIn} {A1 A2 : Option Addr} {n1 c1 n2 c2 : Nat} : ∀ v ∈ inV x (.slice A1 n1 c1) (.slice A2 n2 c2), v.oneCell' = true := by
  intro v hv
  simp only [inV, List.mem_append, List.mem_cons, List.not_mem_nil, or_false] at hv
  rcases hv with hv | rfl | rfl | rfl | rfl
  · exact vbs_one _ v hv
  all_goals rfl
theorem in_box (w : World) {x : TIn} {s u : Value} (h : x.tx.length = 32) : Blk ((w.alloc (.cells zIn.toArray 57)).setCells w.heap.size 0 (inV x s u)) w.heap.size 57 (inV x s u) ∧ Below w.heap.size w ((w.alloc (.cells zIn.toArray 57)).setCells w.heap.size 0 (inV x s u)) := by
  have hB0 := Blk.new w 57 zIn.toArray
  rw [List.toList_toArray] at hB0
  exact ⟨hB0.setCells _ (by rw [inV_len5 h]; rfl), below_setCells (Nat.le_refl _) _ _ _ ((Below.refl _ _).alloc (Nat.le_refl _) _)⟩
theorem in_there (w : World) {x : TIn} {s u : Value} (h : x.tx.length = 32) : (w.alloc (.cells zIn.toArray 57)).there w.heap.size 0 (inV x s u).toArray.size := by
  have hB0 := Blk.new w 57 zIn.toArray
  rw [List.toList_toArray] at hB0
  have := hB0.there
  rw [show zIn.length = 36 from rfl] at this
  have e : (inV x s u).toArray.size = 36 := by rw [List.size_toArray]; exact inV_len5 h
  rw [e]
  exact this

open Go.RowKit
set_option linter.unusedVariables false
set_option linter.unusedSimpArgs false
set_option maxRecDepth 100000
theorem SB.range {W0 w : World} (h : SB W0 w) {b o : Nat} {vs : List Value} (hr : W0.rangeAt b o vs) (hb : b < W0.heap.size) : w.rangeAt b o vs := range_keep hr h hb
theorem sl_rd {W1 wq : World} {A : Option Addr} {n c : Nat} {L : List (BitVec 8)} (h : Sl W1 W1.heap.size (.slice A n c) L) (hs : SB W1 wq) : Rd wq wq.heap.size A L ∧ (A = none → c = 0) := by
  obtain ⟨A', c', e, hr, _, _, hc⟩ := h
  injection e with e1 e2 e3
  subst e1 e3
  exact ⟨(hr.keep' hs (Nat.le_refl _)).up hs.size, hc⟩
def uvl (y : TOut) : Nat := u64 y.vl
theorem outB_uv (y : TOut) : outB y = les (uvl y) 8 ++ txt y.sc := rfl
theorem uvl_lt (y : TOut) : uvl y < 18446744073709551616 := by unfold uvl u64; omega
theorem uvl_wrap (y : TOut) : IntKind.u64.wrap y.vl = (uvl y : Int) := by rw [IntKind.wrap_u64]; unfold uvl u64; omega
theorem rdig4_w (n : Nat) (w : World) (hn : n < 4294967296) : Calls Tryd.prog 49 #[.int .i64 4, .int .u64 (n : Int)] w fun e w' => ∃ A c, e = .returned (.slice A 4 c) ∧ Src22 w' A (les n 4).length (vbs (les n 4)) ∧ (A = none → c = 0) ∧ Below w.heap.size w w' := rdig_w 4 n w (by omega) (by omega)
theorem rdig8_w (n : Nat) (w : World) (hn : n < 18446744073709551616) : Calls Tryd.prog 49 #[.int .i64 8, .int .u64 (n : Int)] w fun e w' => ∃ A c, e = .returned (.slice A 8 c) ∧ Src22 w' A (les n 8).length (vbs (les n 8)) ∧ (A = none → c = 0) ∧ Below w.heap.size w w' := rdig_w 8 n w (by omega) hn
theorem rdig4_any (n : Nat) (w : World) (hn : n < 4294967296) : Calls Tryd.prog 49 #[.int .i64 4, .int .u64 (n : Int)] w (LaidPost (les n 4) w) := rdig_any 4 n w (by omega) (by omega)
theorem src_lit (w : World) : Src22 (w.alloc (.cells #[.int .u8 0, .int .u8 1] 5)) (some ⟨w.heap.size, 0, none⟩) [(0 : BitVec 8), 1].length (vbs [0, 1]) := src_of_blk (R := [0, 1]) (Blk.new w 5 #[.int .u8 0, .int .u8 1])
open Go.RowKit
set_option linter.unusedVariables false
set_option linter.unusedSimpArgs false
set_option maxRecDepth 100000
set_option maxHeartbeats 16000000 in
theorem rlay_true (t : TTx) (i o : Value) (w : World) (h : TxOk w w.heap.size t i o) (hc : chk t = 0) : Calls Tryd.prog 29 #[txV t i o, .bool true] w (LaidPost (layB t true) w) := by
  obtain ⟨hins, houts, hver, hlock⟩ := h
  obtain ⟨z1, z2, z3, z4, z5, _, _⟩ := chk_zero hc
  have hins' := hins
  have houts' := houts
  obtain ⟨A1, c1, b, o1, rfl, hA, hr⟩ := Row.open hins
  obtain ⟨A2, c2, b2, o2, rfl, hA2, hr2⟩ := Row.open houts
  obtain ⟨w1, hw1⟩ : ∃ w1, w1 = w.alloc (.cells #[.int .u32 (t.ver : Int), .slice A1 t.ins.length c1, .slice A2 t.outs.length c2, .int .u32 (t.lock : Int)] 26) := ⟨_, rfl⟩
  have hb1 : Below w.heap.size w w1 := by rw [hw1]; exact (Below.refl _ _).alloc (Nat.le_refl _) _
  have hsz : w1.heap.size = w.heap.size + 1 := by rw [hw1]; simp
  have HT : Hid (∀ wq, SB w1 wq → wq.cell? ⟨w.heap.size, 0, none⟩ = some (.int .u32 (t.ver : Int)) ∧ wq.cell? ⟨w.heap.size, 1, none⟩ = some (.slice A1 t.ins.length c1) ∧ wq.cell? ⟨w.heap.size, 2, none⟩ = some (.slice A2 t.outs.length c2) ∧ wq.cell? ⟨w.heap.size, 3, none⟩ = some (.int .u32 (t.lock : Int))) := fun wq hq =>
    ⟨hq.cell (by rw [hw1]; exact cell_new rfl rfl), hq.cell (by rw [hw1]; exact cell_new rfl rfl), hq.cell (by rw [hw1]; exact cell_new rfl rfl), hq.cell (by rw [hw1]; exact cell_new rfl rfl)⟩
  have HX : Hid (∀ i, i < t.ins.length → A1 = some ⟨b, o1, none⟩ ∧ ∃ As cs Aw cw, ∃ wb wo : Nat, InOk w1 w1.heap.size (t.ins.getD i In0) (.slice As (t.ins.getD i In0).sc.length cs) (.slice Aw (t.ins.getD i In0).wt.length cw) ∧ (t.ins.getD i In0).sc.length ≤ 128 ∧ (t.ins.getD i In0).wt.length ≤ 8 ∧
      (∀ wq, SB w1 wq → wq.rangeAt b (o1 + i * 36) (inV (t.ins.getD i In0) (.slice As (t.ins.getD i In0).sc.length cs) (.slice Aw (t.ins.getD i In0).wt.length cw)) ∧ wq.cell? ⟨b, o1 + i * 36 + 35, none⟩ = some (.slice Aw (t.ins.getD i In0).wt.length cw)) ∧
      ∀ k, k < (t.ins.getD i In0).wt.length → Aw = some ⟨wb, wo, none⟩ ∧ ∃ At ct, Sl w1 w1.heap.size (.slice At ((t.ins.getD i In0).wt.getD k []).length ct) ((t.ins.getD i In0).wt.getD k []) ∧ ((t.ins.getD i In0).wt.getD k []).length ≤ 128 ∧ ∀ wq, SB w1 wq → wq.cell? ⟨wb, wo + k, none⟩ = some (.slice At ((t.ins.getD i In0).wt.getD k []).length ct)) := fun i hi => by
    obtain ⟨hlt, s, u, hcx, hok⟩ := hr i hi
    have hok' := hok
    obtain ⟨hs, hu, h32, _, _⟩ := hok
    have hu' := hu
    obtain ⟨As, cs, rfl, _⟩ := hs
    obtain ⟨Aw, cw, wb, wo, rfl, hAw, hww⟩ := Row.open hu
    have hmem := getD_mem t.ins In0 i hi
    refine ⟨hA (by omega), As, cs, Aw, cw, wb, wo, (hok'.keep hb1 (Nat.le_refl _)).up hb1.size, z3 _ hmem, (z4 _ hmem).1, fun wq hq => ?_, fun k hk => ?_⟩
    · have hR : wq.rangeAt b (o1 + i * 36) (inV (t.ins.getD i In0) (.slice As (t.ins.getD i In0).sc.length cs) (.slice Aw (t.ins.getD i In0).wt.length cw)) := SB.range hq (range_keep hcx hb1 hlt) (Nat.lt_of_lt_of_le hlt hb1.size)
      exact ⟨hR, hR 35 _ (inV_at h32).2.2.2⟩
    · obtain ⟨hwl, tt, hct, hsl⟩ := hww k hk
      rw [Nat.mul_one] at hct
      have hsl' := hsl
      obtain ⟨At, ct, rfl, _⟩ := hsl
      refine ⟨hAw (by omega), At, ct, (hsl'.keep hb1 (Nat.le_refl _)).up hb1.size, (z4 _ hmem).2 _ (getD_mem _ [] k hk), fun wq hq => ?_⟩
      exact hq.cell (by rw [hb1.cell (p := ⟨wb, wo + k, none⟩) hwl]; exact hct)
  have HY : Hid (∀ i, i < t.outs.length → A2 = some ⟨b2, o2, none⟩ ∧ ∃ As cs, Sl w1 w1.heap.size (.slice As (t.outs.getD i Out0).sc.length cs) (t.outs.getD i Out0).sc ∧ (t.outs.getD i Out0).sc.length ≤ 128 ∧ -9223372036854775808 ≤ (t.outs.getD i Out0).vl ∧ (t.outs.getD i Out0).vl < 9223372036854775808 ∧
      ∀ wq, SB w1 wq → wq.cell? ⟨b2, o2 + i * 2, none⟩ = some (.int .i64 (t.outs.getD i Out0).vl) ∧ wq.cell? ⟨b2, o2 + i * 2 + 1, none⟩ = some (.slice As (t.outs.getD i Out0).sc.length cs)) := fun i hi => by
    obtain ⟨hlt, s, hcx, hs, hv1, hv2⟩ := hr2 i hi
    have hs' := hs
    obtain ⟨As, cs, rfl, _⟩ := hs
    refine ⟨hA2 (by omega), As, cs, (hs'.keep hb1 (Nat.le_refl _)).up hb1.size, z5 _ (getD_mem t.outs Out0 i hi), hv1, hv2, fun wq hq => ?_⟩
    have hR : wq.rangeAt b2 (o2 + i * 2) (outV (t.outs.getD i Out0) (.slice As (t.outs.getD i Out0).sc.length cs)) := SB.range hq (range_keep hcx hb1 hlt) (Nat.lt_of_lt_of_le hlt hb1.size)
    exact ⟨by simpa using hR 0 _ rfl, hR 1 _ rfl⟩
  have hX32 : ∀ x ∈ t.ins, (inB x).length ≤ 200 := fun x hx => by
    obtain ⟨k, hk, rfl⟩ := List.getElem_of_mem hx
    obtain ⟨_, s, u, _, _, _, h32, _, _⟩ := hr k hk
    have e : t.ins.getD k In0 = t.ins[k] := by simp [List.getD, hk]
    rw [e] at h32
    exact inB_le (z3 _ hx) h32
  have HF1 : Hid (∀ i, i ≤ t.ins.length → ((t.ins.take i).map inB).flatten.length ≤ 3200) := fun i hi => by
    have := flat_le inB 200 (t.ins.take i) (take_sub hX32)
    rw [List.length_take, Nat.min_eq_left hi] at this
    omega
  have HF2 : Hid (∀ i, i ≤ t.outs.length → ((t.outs.take i).map outB).flatten.length ≤ 3200) := fun i hi => by
    have := flat_le outB 200 (t.outs.take i) (take_sub fun x hx => outB_le (z5 x hx))
    rw [List.length_take, Nat.min_eq_left hi] at this
    omega
  have HF3 : Hid (∀ i, i ≤ t.ins.length → ((t.ins.take i).map witB).flatten.length ≤ 32000) := fun i hi => by
    have := flat_le witB 2000 (t.ins.take i) (take_sub (witB_le z4))
    rw [List.length_take, Nat.min_eq_left hi] at this
    omega
  have K4 := Lib.hid rdig4_w
  have K8 := Lib.hid rdig8_w
  have KC := Lib.hid rcount_w
  have KT := Lib.hid rtext5_w
  obtain ⟨n1, hn1⟩ : ∃ n, n = t.ins.length := ⟨_, rfl⟩
  obtain ⟨n2, hn2⟩ : ∃ n, n = t.outs.length := ⟨_, rfl⟩
  have hn16 : n1 ≤ 16 := by omega
  have hn26 : n2 ≤ 16 := by omega
  obtain ⟨ver, hv⟩ : ∃ n, n = t.ver := ⟨_, rfl⟩
  obtain ⟨lock, hlk⟩ : ∃ n, n = t.lock := ⟨_, rfl⟩
  have KV := Lib.hid (fun wq => rdig4_any ver wq (by omega))
  have Hlk : Hid (lock < 4294967296) := show lock < 4294967296 by omega
  have hwv : IntKind.u64.wrap (ver : Int) = (ver : Int) := by rw [IntKind.wrap_u64]; omega
  have hwl : IntKind.u64.wrap (lock : Int) = (lock : Int) := by rw [IntKind.wrap_u64]; omega
  have hwn1 : IntKind.u64.wrap (n1 : Int) = (n1 : Int) := by rw [IntKind.wrap_u64]; omega
  have hwn2 : IntKind.u64.wrap (n2 : Int) = (n2 : Int) := by rw [IntKind.wrap_u64]; omega
  have HLay : Hid (layB t true = les ver 4 ++ [0, 1] ++ form n1 ++ (t.ins.map inB).flatten ++ form n2 ++ (t.outs.map outB).flatten ++ witsB t.ins ++ les lock 4) := show layB t true = les ver 4 ++ [0, 1] ++ form n1 ++ (t.ins.map inB).flatten ++ form n2 ++ (t.outs.map outB).flatten ++ witsB t.ins ++ les lock 4 by rw [hn1, hn2, hv, hlk]; simp [layB]
  have hTot1 : (t.ins.take n1) = t.ins := by rw [hn1]; exact List.take_of_length_le (Nat.le_refl _)
  have hTot2 : (t.outs.take n2) = t.outs := by rw [hn2]; exact List.take_of_length_le (Nat.le_refl _)
  have HTot := Lib.hid (⟨hTot1, hTot2⟩ : _ ∧ _)
  have HSu1 : Hid (∀ i, i < n1 → ((t.ins.take (i + 1)).map inB).flatten = ((t.ins.take i).map inB).flatten ++ inB (t.ins.getD i In0)) := fun i hi => flat_succ inB t.ins In0 i (by omega)
  have HSu2 : Hid (∀ i, i < n2 → ((t.outs.take (i + 1)).map outB).flatten = ((t.outs.take i).map outB).flatten ++ outB (t.outs.getD i Out0)) := fun i hi => flat_succ outB t.outs Out0 i (by omega)
  have HSu3 : Hid (∀ i, i < n1 → ((t.ins.take (i + 1)).map witB).flatten = ((t.ins.take i).map witB).flatten ++ witB (t.ins.getD i In0)) := fun i hi => flat_succ witB t.ins In0 i (by omega)
  unfold txV
  rw [← hn1] at HX HF1 HF3 hw1 HT ⊢
  rw [← hn2] at HY HF2 hw1 HT ⊢
  rw [← hv] at hw1 HT ⊢
  rw [← hlk] at hw1 HT ⊢
  have Hb1 := Lib.hid hb1
  have Hts : Hid (w.heap.size ≤ w1.heap.size) := hb1.size
  have HW := Lib.hid hw1
  clear hins houts hins' houts' z1 z2 z3 z4 z5 hc hr hr2 hA hA2 hver hlock hX32 hTot1 hTot2 hn1 hn2 hv hlk hb1 hw1 hsz
  obtain ⟨Fl, hFl⟩ : ∃ L, L = layB t true := ⟨_, rfl⟩
  rw [← hFl] at HLay ⊢
  clear hFl
  go_enter Tryd.func29, Tryd.ntmps29
  go_upto_region 1 with fail
  rw [← HW.out]
  generalize w.heap.size = tb at HT ⊢
  obtain ⟨W1, hW1⟩ : ∃ W, W = w1 := ⟨_, rfl⟩
  rw [← hW1] at HT HX HY Hb1 Hts ⊢
  clear hW1 HW
  have hT := HT.out W1 (SB.refl W1)
  obtain ⟨d0, _, _, _⟩ := hT
  go_upto_region 2 with (go_at_call 49; (with_reducible refine (KV.out _).mono ?_); rintro e w2 ⟨v2, rfl, ho2, hb2⟩; have HQ : Hid (LQ W1 v2 (les ver 4) w2) := (⟨hb2, ho2⟩ : LQ W1 v2 (les ver 4) w2); clear ho2 hb2; dsimp only)
  clear d0 KV hwv
  have HQ2 := Lib.hid (HQ.out.next ((Below.refl _ _).alloc (Nat.le_refl _) (.cells #[.int .u8 0, .int .u8 1] 5)))
  have HS2 := Lib.hid (src_lit w2)
  go_upto_region 4 with ((with_reducible show wpList _ _ _ ((⟨some 19, _, _, _, _, _⟩ : Oper) :: _) _ _); refine wpList_pushT (W1 := W1) (o := ⟨some 19, _, _, _, _, _⟩) rfl (.tmp 17) (.tmp 18) rfl rfl _ (les ver 4) [0, 1] rfl HQ2.out (some ⟨w2.heap.size, 0, none⟩) 2 2 rfl rfl HS2.out (fun h => by cases h) (by rw [les_len]; decide) ?_; intro v' w' h1 h2 h3)
  have HQ := Lib.hid h1
  clear h1 h2 h3 HQ2 HS2
  obtain ⟨P0, hP0⟩ : ∃ P, P = les ver 4 ++ [0, 1] := ⟨_, rfl⟩
  have hp0 : P0.length ≤ 6 := by rw [hP0]; simp [les_len]
  rw [← hP0] at HQ
  have HP0 := Lib.hid hP0
  clear hP0
  have dT := (HT.out _ HQ.out.sb).2.1
  go_upto_region 5 with (first
    | (go_at_call 50; (with_reducible refine (KC.out n1 _ (by omega)).mono ?_); rintro e w2 ⟨A2, c2, rfl, hs2, hn2, hb2⟩; have HQ2 := Lib.hid (HQ.out.next hb2); have HS2 := Lib.hid hs2; have HN2 := Lib.hid hn2; clear hs2 hn2 hb2; dsimp only)
    | ((with_reducible show wpList _ _ _ ((⟨some 26, _, _, _, _, _⟩ : Oper) :: _) _ _); refine wpList_pushT (W1 := W1) (o := ⟨some 26, _, _, _, _, _⟩) rfl (.tmp 20) (.tmp 25) rfl rfl _ (P0) (form n1) rfl HQ2.out A2 1 c2 rfl (by rw [form_small (by omega)]; rfl) HS2.out HN2.out (by rw [form_small (show n1 < 253 by omega)]; simp; omega) ?_; intro v' w' h1 h2 h3))
  have HQ := Lib.hid h1
  clear h1 h2 h3 HQ2 HS2 HN2
  obtain ⟨P1, hP1⟩ : ∃ P, P = P0 ++ form n1 := ⟨_, rfl⟩
  have hp1 : P1.length ≤ 7 := by rw [hP1, form_small (by omega)]; simp; omega
  rw [← hP1] at HQ
  have HP1 := Lib.hid hP1
  clear hP1 dT
  go_wp2_with fail
  go_loopw [5, 6] (fun v iv wq => ∃ i : Nat, i ≤ n1 ∧ iv = .int .i64 (i : Int) ∧ LQ W1 v (P1 ++ ((t.ins.take i).map inB).flatten) wq) (fun _ iv _ => n1 - (intOf iv).toNat)
  case atStart => exact ⟨0, Nat.zero_le _, rfl, by simpa using HQ.out⟩
  case round =>
    obtain ⟨i, hi, rfl, hq⟩ := hrel
    clear HQ
    obtain ⟨hT0, hT1, hT2, hT3⟩ := HT.out _ hq.sb
    by_cases hi1 : i < n1
    · have hi2 : (i : Int) < (n1 : Int) := by omega
      obtain ⟨rfl, As, cs, Aw, cw, wb, wo, hok, hsc, hwt, hR, _⟩ := HX.out i hi1
      obtain ⟨x, hx⟩ : ∃ x, x = t.ins.getD i In0 := ⟨_, rfl⟩
      rw [← hx] at hok hsc hwt hR
      have hbd := HF1.out i hi
      obtain ⟨L, hL⟩ : ∃ L, L = P1 ++ ((t.ins.take i).map inB).flatten := ⟨_, rfl⟩
      have hLl : L.length ≤ 3300 := by rw [hL, List.length_append]; omega
      rw [← hL] at hq
      have HSx : Hid (P1 ++ ((t.ins.take (i + 1)).map inB).flatten = L ++ x.tx ++ les x.ix 4 ++ txt x.sc ++ les x.sq 4) := show P1 ++ ((t.ins.take (i + 1)).map inB).flatten = L ++ x.tx ++ les x.ix 4 ++ txt x.sc ++ les x.sq 4 by rw [HSu1.out i hi1, ← hx, hL]; simp [inB]
      obtain ⟨hRq, _⟩ := hR wr hq.sb
      have Hok := Lib.hid hok
      have h32 := hok.2.2.1
      have H32 := Lib.hid h32
      have HQ := Lib.hid hq
      have hz := zero57
      obtain ⟨ls, hls⟩ : ∃ n, n = x.sc.length := ⟨_, rfl⟩
      obtain ⟨lw, hlw⟩ : ∃ n, n = x.wt.length := ⟨_, rfl⟩
      rw [← hls] at hsc hRq Hok
      rw [← hlw] at hRq Hok
      have Hls := Lib.hid hls
      have HRq := Lib.hid hRq
      have HBX := Lib.hid (in_box wr (s := .slice As ls cs) (u := .slice Aw lw cw) h32)
      have HBT := Lib.hid (in_there wr (s := .slice As ls cs) (u := .slice Aw lw cw) h32)
      have HO1 := Lib.hid (inV_oneO Hok.out)
      clear hq hok hR hx hL hbd hRq h32 hls hlw hwt
      go_upto_region 9 with (first
        | (with_reducible refine wpList_load_mid rfl 57 (.tmp 37) rfl b (o1 + i * 36) rfl (inV x (.slice As ls cs) (.slice Aw lw cw)) _ HRq.out Tryd.underlying57 rfl (info57x H32.out) ?_)
        | (with_reducible refine wpList_store_mid rfl 57 (.tmp 7) (.tmp 38) rfl wr.heap.size 0 (inV x (.slice As ls cs) (.slice Aw lw cw)).toArray rfl rfl HBT.out (info57v H32.out) (all_oneCell_toArray HO1.out) ?_))
      try dsimp only [Act.put]
      have hbk := HBX.out.1
      have hq := HQ.out.next HBX.out.2
      generalize (wr.alloc (.cells zIn.toArray 57)).setCells wr.heap.size 0 (inV x (.slice As ls cs) (.slice Aw lw cw)) = W3 at hbk hq ⊢
      generalize wr.heap.size = g at hbk ⊢
      have HQ0 := Lib.hid hq
      have HBk0 := Lib.hid hbk
      clear hq hbk HBX HBT HO1 HRq HQ hz hT0 hT1 hT2 hT3
      go_wp2_with fail
      go_loopw [5, 8] (fun v kv wq => ∃ k : Nat, k ≤ 32 ∧ kv = .int .i64 (k : Int) ∧ LQ W1 v (L ++ x.tx.take k) wq ∧ Blk wq g 57 (inV x (.slice As ls cs) (.slice Aw lw cw))) (fun _ kv _ => 32 - (intOf kv).toNat)
      case atStart => exact ⟨0, Nat.zero_le _, rfl, by simpa using HQ0.out, HBk0.out⟩
      case round =>
        obtain ⟨k, hk, rfl, hq, hbk⟩ := hrel
        clear HQ0 HBk0
        have HQ := Lib.hid hq
        have HBk := Lib.hid hbk
        by_cases hk1 : k < 32
        · have hk2 : (k : Int) < 32 := by omega
          have hk0 : (0 : Int) ≤ (k : Int) := by omega
          have e : x.tx.take (k + 1) = x.tx.take k ++ [x.tx.getD k 0] := by have := H32.out; rw [List.take_succ_eq_append_getElem (by omega)]; simp [List.getD, this, hk1]
          have c0 := hbk.cell (inV_tx (x := x) (s := .slice As ls cs) (v := .slice Aw lw cw) (j := k) (by rw [H32.out]; exact hk1))
          obtain ⟨y, hy⟩ : ∃ y, y = x.tx.getD k 0 := ⟨_, rfl⟩
          rw [← hy] at c0 e
          have He := Lib.hid e
          have hlt : (L ++ x.tx.take k).length ≤ 3400 := by rw [List.length_append, List.length_take]; omega
          have HQ2 := Lib.hid (hq.next ((Below.refl _ _).alloc (Nat.le_refl _) (.cells #[.int .u8 (Bt y)] 5)))
          have HS2 := Lib.hid (src_one wr y)
          have HBk2 := Lib.hid (hbk.alloc (.cells #[.int .u8 (Bt y)] 5))
          clear hq hbk e hy
          go_wp2_with ((with_reducible show wpList _ _ _ ((⟨some 50, _, _, _, _, _⟩ : Oper) :: _) _ _); refine wpList_pushT (W1 := W1) (o := ⟨some 50, _, _, _, _, _⟩) rfl (.tmp 43) (.tmp 49) rfl rfl _ (L ++ x.tx.take k) [y] rfl HQ2.out (some ⟨wr.heap.size, 0, none⟩) 1 1 rfl (one_len _) HS2.out (fun h => by cases h) (by simp only [List.length_cons, List.length_nil]; omega) ?_; intro v' w' h1 h2 h3)
          have h4 := h3 _ _ _ (by decide) HBk2.out
          clear c0 hk0
          go_roundw
          case rel => exact ⟨k + 1, by omega, by go_num, by rw [He.out, ← List.append_assoc]; exact h1, h4⟩
          case measure => simp [intOf]; omega
        · obtain rfl : k = 32 := by omega
          have e32 : x.tx.take 32 = x.tx := List.take_of_length_le (by rw [H32.out]; exact Nat.le_refl _)
          rw [e32] at HQ
          have hlt : (L ++ x.tx).length ≤ 3400 := by rw [List.length_append, H32.out]; omega
          obtain ⟨e32a, e33a, e34a, _⟩ := inV_at (x := x) (s := .slice As ls cs) (v := .slice Aw lw cw) H32.out
          obtain ⟨hs, hu, _, hix, hsq⟩ := Hok.out
          have hwx : IntKind.u64.wrap (x.ix : Int) = (x.ix : Int) := by rw [IntKind.wrap_u64]; omega
          have hws : IntKind.u64.wrap (x.sq : Int) = (x.sq : Int) := by rw [IntKind.wrap_u64]; omega
          have ec : ((32 : Nat) : Int) = 32 := rfl
          rw [ec]
          have c32 := hbk.cell e32a
          clear hq hbk e32
          go_upto_region 14 with (first
            | (go_at_call 49; (with_reducible refine (K4.out x.ix _ hix).mono ?_); rintro e w2 ⟨A2, c2, rfl, hs2, hn2, hb2⟩; have HQ2 := Lib.hid (HQ.out.next hb2); have HBk2 := Lib.hid (HBk.out.below hb2 HBk.out.lt); have HS2 := Lib.hid hs2; have HN2 := Lib.hid hn2; clear hs2 hn2 hb2; dsimp only)
            | ((with_reducible show wpList _ _ _ ((⟨some 57, _, _, _, _, _⟩ : Oper) :: _) _ _); refine wpList_pushT (W1 := W1) (o := ⟨some 57, _, _, _, _, _⟩) rfl (.tmp 51) (.tmp 56) rfl rfl _ (L ++ x.tx) (les x.ix 4) rfl HQ2.out A2 4 c2 rfl (by rw [les_len]) HS2.out HN2.out (by rw [les_len]; omega) ?_; intro v' w' h1 h2 h3))
          have HBk := Lib.hid (h3 _ _ _ (by decide) HBk2.out)
          have HQ := Lib.hid h1
          clear h1 h2 h3 HQ2 HS2 HN2 HBk2
          have hlt2 : (L ++ x.tx ++ les x.ix 4).length ≤ 3410 := by rw [List.length_append, les_len]; omega
          have c33 := HBk.out.cell e33a
          clear c32
          obtain ⟨mt, hmt⟩ : ∃ m, m = (txt x.sc).length := ⟨_, rfl⟩
          have htl := txt_len x.sc
          rw [← hmt, ← Hls.out] at htl
          have KTx := Lib.hid (fun wq (hq : SB W1 wq) => KT.out As x.sc ls mt cs wq Hls.out.symm hmt.symm (sl_rd hs hq).1 (sl_rd hs hq).2 (by omega))
          go_upto_region 15 with (first
            | (go_at_call 51; (with_reducible refine (KTx.out _ HQ.out.sb).mono ?_); rintro e w2 ⟨A2, c2, rfl, hs2, hn2, hb2⟩; have HQ2 := Lib.hid (HQ.out.next hb2); have HBk2 := Lib.hid (HBk.out.below hb2 HBk.out.lt); have HS2 := Lib.hid hs2; have HN2 := Lib.hid hn2; clear hs2 hn2 hb2; dsimp only)
            | ((with_reducible show wpList _ _ _ ((⟨some 62, _, _, _, _, _⟩ : Oper) :: _) _ _); refine wpList_pushT (W1 := W1) (o := ⟨some 62, _, _, _, _, _⟩) rfl (.tmp 58) (.tmp 61) rfl rfl _ (L ++ x.tx ++ les x.ix 4) (txt x.sc) rfl HQ2.out A2 mt c2 rfl (by rw [hmt]) HS2.out HN2.out (by rw [← hmt]; omega) ?_; intro v' w' h1 h2 h3))
          have HBk := Lib.hid (h3 _ _ _ (by decide) HBk2.out)
          have HQ := Lib.hid h1
          clear h1 h2 h3 HQ2 HS2 HN2 HBk2
          have hlt3 : (L ++ x.tx ++ les x.ix 4 ++ txt x.sc).length ≤ 3560 := by rw [List.length_append, ← hmt]; omega
          have c34 := HBk.out.cell e34a
          clear c33
          go_wp2_with (first
            | (go_at_call 49; (with_reducible refine (K4.out x.sq _ hsq).mono ?_); rintro e w2 ⟨A2, c2, rfl, hs2, hn2, hb2⟩; have HQ2 := Lib.hid (HQ.out.next hb2); have HBk2 := Lib.hid (HBk.out.below hb2 HBk.out.lt); have HS2 := Lib.hid hs2; have HN2 := Lib.hid hn2; clear hs2 hn2 hb2; dsimp only)
            | ((with_reducible show wpList _ _ _ ((⟨some 68, _, _, _, _, _⟩ : Oper) :: _) _ _); refine wpList_pushT (W1 := W1) (o := ⟨some 68, _, _, _, _, _⟩) rfl (.tmp 63) (.tmp 67) rfl rfl _ (L ++ x.tx ++ les x.ix 4 ++ txt x.sc) (les x.sq 4) rfl HQ2.out A2 4 c2 rfl (by rw [les_len]) HS2.out HN2.out (by rw [les_len]; omega) ?_; intro v' w' h1 h2 h3))
          have HBk := Lib.hid (h3 _ _ _ (by decide) HBk2.out)
          have HQ := Lib.hid h1
          clear h1 h2 h3 HQ2 HS2 HN2 HBk2
          clear c34
          go_roundw
          case rel => exact ⟨i + 1, by omega, by go_num, by rw [HSx.out]; exact HQ.out⟩
          case measure => simp [intOf]; omega
    · obtain rfl : i = n1 := by omega
      rw [HTot.out.1] at hq
      have hbd := HF1.out i (Nat.le_refl _)
      rw [HTot.out.1] at hbd
      obtain ⟨P2, hP2⟩ : ∃ P, P = P1 ++ (t.ins.map inB).flatten := ⟨_, rfl⟩
      have hp2 : P2.length ≤ 3300 := by rw [hP2, List.length_append]; omega
      rw [← hP2] at hq
      have HP2 := Lib.hid hP2
      have HQ := Lib.hid hq
      clear hq hP2 hbd hT0 hT3
      go_upto_region 17 with (first
        | (go_at_call 50; (with_reducible refine (KC.out n2 _ (by omega)).mono ?_); rintro e w2 ⟨A2, c2, rfl, hs2, hn2, hb2⟩; have HQ2 := Lib.hid (HQ.out.next hb2); have HS2 := Lib.hid hs2; have HN2 := Lib.hid hn2; clear hs2 hn2 hb2; dsimp only)
        | ((with_reducible show wpList _ _ _ ((⟨some 75, _, _, _, _, _⟩ : Oper) :: _) _ _); refine wpList_pushT (W1 := W1) (o := ⟨some 75, _, _, _, _, _⟩) rfl (.tmp 69) (.tmp 74) rfl rfl _ (P2) (form n2) rfl HQ2.out A2 1 c2 rfl (by rw [form_small (by omega)]; rfl) HS2.out HN2.out (by rw [form_small (show n2 < 253 by omega)]; simp; omega) ?_; intro v' w' h1 h2 h3))
      have HQ := Lib.hid h1
      clear h1 h2 h3 HQ2 HS2 HN2
      obtain ⟨P3, hP3⟩ : ∃ P, P = P2 ++ form n2 := ⟨_, rfl⟩
      have hp3 : P3.length ≤ 3310 := by rw [hP3, form_small (show n2 < 253 by omega)]; simp; omega
      rw [← hP3] at HQ
      have HP3 := Lib.hid hP3
      clear hP3 hT1 hT2
      go_wp2_with fail
      go_loopw [5, 9] (fun v iv wq => ∃ j : Nat, j ≤ n2 ∧ iv = .int .i64 (j : Int) ∧ LQ W1 v (P3 ++ ((t.outs.take j).map outB).flatten) wq) (fun _ iv _ => n2 - (intOf iv).toNat)
      case atStart => exact ⟨0, Nat.zero_le _, rfl, by simpa using HQ.out⟩
      case round =>
        obtain ⟨j, hj, rfl, hq⟩ := hrel
        clear HQ
        obtain ⟨hT0, hT1, hT2, hT3⟩ := HT.out _ hq.sb
        by_cases hj1 : j < n2
        · have hj2 : (j : Int) < (n2 : Int) := by omega
          obtain ⟨rfl, As, cs, hsl, hsc, hv1, hv2, hR⟩ := HY.out j hj1
          obtain ⟨y, hy⟩ : ∃ y, y = t.outs.getD j Out0 := ⟨_, rfl⟩
          rw [← hy] at hsl hsc hv1 hv2 hR
          have hbd := HF2.out j hj
          obtain ⟨L, hL⟩ : ∃ L, L = P3 ++ ((t.outs.take j).map outB).flatten := ⟨_, rfl⟩
          have hLl : L.length ≤ 6600 := by rw [hL, List.length_append]; omega
          rw [← hL] at hq
          have HSx : Hid (P3 ++ ((t.outs.take (j + 1)).map outB).flatten = L ++ les (uvl y) 8 ++ txt y.sc) := show P3 ++ ((t.outs.take (j + 1)).map outB).flatten = L ++ les (uvl y) 8 ++ txt y.sc by rw [HSu2.out j hj1, ← hy, hL]; simp [outB_uv]
          obtain ⟨hr0, hr1⟩ := hR wr hq.sb
          obtain ⟨ls, hls⟩ : ∃ n, n = y.sc.length := ⟨_, rfl⟩
          rw [← hls] at hsc hsl hr1 hR
          have Hls := Lib.hid hls
          have HR := Lib.hid hR
          have Hsl := Lib.hid hsl
          obtain ⟨z, hz⟩ : ∃ z, z = uvl y := ⟨_, rfl⟩
          rw [← hz] at HSx
          have hzw : IntKind.u64.wrap y.vl = (z : Int) := by rw [hz]; exact uvl_wrap y
          have hzl : z < 18446744073709551616 := by rw [hz]; exact uvl_lt y
          obtain ⟨vl, hvl⟩ : ∃ v, v = y.vl := ⟨_, rfl⟩
          rw [← hvl] at hr0 hzw
          have HQ := Lib.hid hq
          clear hq hy hL hbd hz hvl hls hr1 hR hsl hv1 hv2
          go_upto_region 21 with (first
            | (go_at_call 49; (with_reducible refine (K8.out z _ hzl).mono ?_); rintro e w2 ⟨A2, c2, rfl, hs2, hn2, hb2⟩; have HQ2 := Lib.hid (HQ.out.next hb2); have HS2 := Lib.hid hs2; have HN2 := Lib.hid hn2; clear hs2 hn2 hb2; dsimp only)
            | ((with_reducible show wpList _ _ _ ((⟨some 92, _, _, _, _, _⟩ : Oper) :: _) _ _); refine wpList_pushT (W1 := W1) (o := ⟨some 92, _, _, _, _, _⟩) rfl (.tmp 83) (.tmp 91) rfl rfl _ (L) (les z 8) rfl HQ2.out A2 8 c2 rfl (by rw [les_len]) HS2.out HN2.out (by rw [les_len]; omega) ?_; intro v' w' h1 h2 h3))
          have HQ := Lib.hid h1
          clear h1 h2 h3 HQ2 HS2 HN2
          have hlt2 : (L ++ les z 8).length ≤ 6610 := by rw [List.length_append, les_len]; omega
          clear hT0 hT1 hT2 hT3 hr0 hzw
          obtain ⟨_, hT1, hT2, _⟩ := HT.out _ HQ.out.sb
          have hr1 := (HR.out _ HQ.out.sb).2
          obtain ⟨mt, hmt⟩ : ∃ m, m = (txt y.sc).length := ⟨_, rfl⟩
          have htl := txt_len y.sc
          rw [← hmt, ← Hls.out] at htl
          have KTx := Lib.hid (fun wq (hq : SB W1 wq) => KT.out As y.sc ls mt cs wq Hls.out.symm hmt.symm (sl_rd Hsl.out hq).1 (sl_rd Hsl.out hq).2 (by omega))
          go_wp2_with (first
            | (go_at_call 51; (with_reducible refine (KTx.out _ HQ.out.sb).mono ?_); rintro e w2 ⟨A2, c2, rfl, hs2, hn2, hb2⟩; have HQ2 := Lib.hid (HQ.out.next hb2); have HS2 := Lib.hid hs2; have HN2 := Lib.hid hn2; clear hs2 hn2 hb2; dsimp only)
            | ((with_reducible show wpList _ _ _ ((⟨some 101, _, _, _, _, _⟩ : Oper) :: _) _ _); refine wpList_pushT (W1 := W1) (o := ⟨some 101, _, _, _, _, _⟩) rfl (.tmp 93) (.tmp 100) rfl rfl _ (L ++ les z 8) (txt y.sc) rfl HQ2.out A2 mt c2 rfl (by rw [hmt]) HS2.out HN2.out (by rw [← hmt]; omega) ?_; intro v' w' h1 h2 h3))
          have HQ := Lib.hid h1
          clear h1 h2 h3 HQ2 HS2 HN2
          clear hr1 hT1 hT2
          go_roundw
          case rel => exact ⟨j + 1, by omega, by go_num, by rw [HSx.out]; exact HQ.out⟩
          case measure => simp [intOf]; omega
        · obtain rfl : j = n2 := by omega
          rw [HTot.out.2] at hq
          have hbd := HF2.out j (Nat.le_refl _)
          rw [HTot.out.2] at hbd
          obtain ⟨P4, hP4⟩ : ∃ P, P = P3 ++ (t.outs.map outB).flatten := ⟨_, rfl⟩
          have hp4 : P4.length ≤ 6600 := by rw [hP4, List.length_append]; omega
          rw [← hP4] at hq
          have HP4 := Lib.hid hP4
          have HQ := Lib.hid hq
          clear hq hP4 hbd hT0 hT3
          go_wp2_with fail
          go_loopw [5, 10] (fun v av wq => ∃ a : Nat, a ≤ i ∧ av = .int .i64 (a : Int) ∧ LQ W1 v (P4 ++ ((t.ins.take a).map witB).flatten) wq) (fun _ av _ => i - (intOf av).toNat)
          case atStart => exact ⟨0, Nat.zero_le _, rfl, by simpa using HQ.out⟩
          case round =>
            obtain ⟨a, ha, rfl, hq⟩ := hrel
            clear HQ hT1 hT2
            obtain ⟨hT0, hT1, hT2, hT3⟩ := HT.out _ hq.sb
            by_cases ha1 : a < i
            · have ha2 : (a : Int) < (i : Int) := by omega
              obtain ⟨rfl, As, cs, Aw, cw, wb, wo, hok, hsc, hwt, hR, hk⟩ := HX.out a ha1
              obtain ⟨x, hx⟩ : ∃ x, x = t.ins.getD a In0 := ⟨_, rfl⟩
              rw [← hx] at hok hsc hwt hR hk
              have hbd := HF3.out a ha
              obtain ⟨L, hL⟩ : ∃ L, L = P4 ++ ((t.ins.take a).map witB).flatten := ⟨_, rfl⟩
              have hLl : L.length ≤ 38600 := by rw [hL, List.length_append]; omega
              rw [← hL] at hq
              obtain ⟨lw, hlw⟩ : ∃ n, n = x.wt.length := ⟨_, rfl⟩
              rw [← hlw] at hwt hR hk
              have Hlw := Lib.hid hlw
              have HSx : Hid (P4 ++ ((t.ins.take (a + 1)).map witB).flatten = L ++ form lw ++ (x.wt.map txt).flatten) := show P4 ++ ((t.ins.take (a + 1)).map witB).flatten = L ++ form lw ++ (x.wt.map txt).flatten by rw [HSu3.out a ha1, ← hx, hL, hlw]; simp [witB]
              have HR : Hid (∀ wq, SB W1 wq → wq.cell? ⟨b, o1 + a * 36 + 35, none⟩ = some (.slice Aw lw cw)) := fun wq hq => (hR wq hq).2
              have hr35 := HR.out wr hq.sb
              have HK := Lib.hid hk
              have HQ := Lib.hid hq
              have hwl : IntKind.u64.wrap (lw : Int) = (lw : Int) := by rw [IntKind.wrap_u64]; omega
              have hTx : ∀ u ∈ x.wt, (txt u).length ≤ 137 := fun u hu => by
                obtain ⟨m, hm, rfl⟩ := List.getElem_of_mem hu
                have hmm := (hk m (by omega)).2
                obtain ⟨_, _, _, h128, _⟩ := hmm
                have e : x.wt.getD m [] = x.wt[m] := by simp [List.getD, hm]
                rw [e] at h128
                have := txt_len x.wt[m]
                omega
              have HFw : Hid (∀ k, k ≤ lw → ((x.wt.take k).map txt).flatten.length ≤ 1100) := fun k hkk => by
                have := flat_le txt 137 (x.wt.take k) (take_sub hTx)
                rw [List.length_take, Nat.min_eq_left (by omega)] at this
                have : k * 137 ≤ 8 * 137 := Nat.mul_le_mul_right _ (by omega)
                omega
              have HSw : Hid (∀ k, k < lw → ((x.wt.take (k + 1)).map txt).flatten = ((x.wt.take k).map txt).flatten ++ txt (x.wt.getD k [])) := fun k hkk => flat_succ txt x.wt [] k (by omega)
              have HTw : Hid (x.wt.take lw = x.wt) := show x.wt.take lw = x.wt from List.take_of_length_le (by omega)
              clear hq hok hx hL hbd hlw hR hk hTx
              go_upto_region 26 with (first
                | (go_at_call 50; (with_reducible refine (KC.out lw _ (by omega)).mono ?_); rintro e w2 ⟨A2, c2, rfl, hs2, hn2, hb2⟩; have HQ2 := Lib.hid (HQ.out.next hb2); have HS2 := Lib.hid hs2; have HN2 := Lib.hid hn2; clear hs2 hn2 hb2; dsimp only)
                | ((with_reducible show wpList _ _ _ ((⟨some 122, _, _, _, _, _⟩ : Oper) :: _) _ _); refine wpList_pushT (W1 := W1) (o := ⟨some 122, _, _, _, _, _⟩) rfl (.tmp 112) (.tmp 121) rfl rfl _ (L) (form lw) rfl HQ2.out A2 1 c2 rfl (by rw [form_small (by omega)]; rfl) HS2.out HN2.out (by rw [form_small (show lw < 253 by omega)]; simp; omega) ?_; intro v' w' h1 h2 h3))
              have HQ := Lib.hid h1
              clear h1 h2 h3 HQ2 HS2 HN2
              obtain ⟨P5, hP5⟩ : ∃ P, P = L ++ form lw := ⟨_, rfl⟩
              have hp5 : P5.length ≤ 38610 := by rw [hP5, form_small (show lw < 253 by omega)]; simp; omega
              rw [← hP5] at HQ HSx
              clear hP5 hr35 hwl hT0 hT1 hT2 hT3
              go_wp2_with fail
              go_loopw [5, 11] (fun v kv wq => ∃ k : Nat, k ≤ lw ∧ kv = .int .i64 (k : Int) ∧ LQ W1 v (P5 ++ ((x.wt.take k).map txt).flatten) wq) (fun _ kv _ => lw - (intOf kv).toNat)
              case atStart => exact ⟨0, Nat.zero_le _, rfl, by simpa using HQ.out⟩
              case round =>
                obtain ⟨k, hk, rfl, hq⟩ := hrel
                clear HQ
                obtain ⟨_, hT1, _, _⟩ := HT.out _ hq.sb
                have hr35 := HR.out wr hq.sb
                by_cases hk1 : k < lw
                · have hk2 : (k : Int) < (lw : Int) := by omega
                  obtain ⟨rfl, At, ct, hsl, h128, hcl⟩ := HK.out k hk1
                  obtain ⟨u, hu⟩ : ∃ u, u = x.wt.getD k [] := ⟨_, rfl⟩
                  rw [← hu] at hsl h128 hcl
                  have hcu := hcl wr hq.sb
                  have hbd := HFw.out k hk
                  obtain ⟨Lk, hLk⟩ : ∃ L, L = P5 ++ ((x.wt.take k).map txt).flatten := ⟨_, rfl⟩
                  have hLl : Lk.length ≤ 39800 := by rw [hLk, List.length_append]; omega
                  rw [← hLk] at hq
                  have HSy : Hid (P5 ++ ((x.wt.take (k + 1)).map txt).flatten = Lk ++ txt u) := show P5 ++ ((x.wt.take (k + 1)).map txt).flatten = Lk ++ txt u by rw [HSw.out k hk1, ← hu, hLk]; simp
                  obtain ⟨lu, hlu⟩ : ∃ n, n = u.length := ⟨_, rfl⟩
                  rw [← hlu] at hsl h128 hcu
                  have Hlu := Lib.hid hlu
                  have Hsl := Lib.hid hsl
                  have HQ := Lib.hid hq
                  obtain ⟨mt, hmt⟩ : ∃ m, m = (txt u).length := ⟨_, rfl⟩
                  have htl := txt_len u
                  rw [← hmt, ← hlu] at htl
                  have KTx := Lib.hid (fun wq (hq : SB W1 wq) => KT.out At u lu mt ct wq Hlu.out.symm hmt.symm (sl_rd Hsl.out hq).1 (sl_rd Hsl.out hq).2 (by omega))
                  clear hq hu hLk hbd hlu hsl hcl
                  go_wp2_with (first
                    | (go_at_call 51; (with_reducible refine (KTx.out _ HQ.out.sb).mono ?_); rintro e w2 ⟨A2, c2, rfl, hs2, hn2, hb2⟩; have HQ2 := Lib.hid (HQ.out.next hb2); have HS2 := Lib.hid hs2; have HN2 := Lib.hid hn2; clear hs2 hn2 hb2; dsimp only)
                    | ((with_reducible show wpList _ _ _ ((⟨some 145, _, _, _, _, _⟩ : Oper) :: _) _ _); refine wpList_pushT (W1 := W1) (o := ⟨some 145, _, _, _, _, _⟩) rfl (.tmp 134) (.tmp 144) rfl rfl _ (Lk) (txt u) rfl HQ2.out A2 mt c2 rfl (by rw [hmt]) HS2.out HN2.out (by rw [← hmt]; omega) ?_; intro v' w' h1 h2 h3))
                  have HQ := Lib.hid h1
                  clear h1 h2 h3 HQ2 HS2 HN2
                  clear hcu hr35 hT1
                  go_roundw
                  case rel => exact ⟨k + 1, by omega, by go_num, by rw [HSy.out]; exact HQ.out⟩
                  case measure => simp [intOf]; omega
                · obtain rfl : k = lw := by omega
                  rw [HTw.out] at hq
                  have HQ := Lib.hid hq
                  clear hq
                  go_wp2_with fail
                  go_roundw
                  case rel => exact ⟨a + 1, by omega, by go_num, by rw [HSx.out]; exact HQ.out⟩
                  case measure => simp [intOf]; omega
            · obtain rfl : a = i := by omega
              rw [HTot.out.1] at hq
              have hbd := HF3.out a (Nat.le_refl _)
              rw [HTot.out.1] at hbd
              obtain ⟨P6, hP6⟩ : ∃ P, P = P4 ++ (t.ins.map witB).flatten := ⟨_, rfl⟩
              have hp6 : P6.length ≤ 38600 := by rw [hP6, List.length_append]; omega
              rw [← hP6] at hq
              have HP6 : Hid (P6 = P4 ++ witsB t.ins) := hP6
              have HQ := Lib.hid hq
              clear hq hP6 hbd
              go_wp2_with (first
                | (go_at_call 49; (with_reducible refine (K4.out lock _ Hlk.out).mono ?_); rintro e w2 ⟨A2, c2, rfl, hs2, hn2, hb2⟩; have HQ2 := Lib.hid (HQ.out.next hb2); have HS2 := Lib.hid hs2; have HN2 := Lib.hid hn2; clear hs2 hn2 hb2; dsimp only)
                | ((with_reducible show wpList _ _ _ ((⟨some 151, _, _, _, _, _⟩ : Oper) :: _) _ _); refine wpList_pushT (W1 := W1) (o := ⟨some 151, _, _, _, _, _⟩) rfl (.tmp 146) (.tmp 150) rfl rfl _ (P6) (les lock 4) rfl HQ2.out A2 4 c2 rfl (by rw [les_len]) HS2.out HN2.out (by rw [les_len]; omega) ?_; intro v' w' h1 h2 h3))
              have HQ := Lib.hid h1
              clear h1 h2 h3 HQ2 HS2 HN2
              go_ret
              exact ⟨_, rfl, by rw [HLay.out, ← HP0.out, ← HP1.out, ← HP2.out, ← HP3.out, ← HP4.out, ← HP6.out]; exact HQ.out.ob.base Hb1.out.size, Hb1.out.trans (Below.mono HQ.out.sb Hb1.out.size)⟩
open Go.RowKit
set_option linter.unusedVariables false
set_option linter.unusedSimpArgs false
set_option maxRecDepth 100000
set_option maxHeartbeats 16000000 in
theorem rlay_false (t : TTx) (i o : Value) (w : World) (h : TxOk w w.heap.size t i o) (hc : chk t = 0) : Calls Tryd.prog 29 #[txV t i o, .bool false] w (LaidPost (layB t false) w) := by
  obtain ⟨hins, houts, hver, hlock⟩ := h
  obtain ⟨z1, z2, z3, z4, z5, _, _⟩ := chk_zero hc
  have hins' := hins
  have houts' := houts
  obtain ⟨A1, c1, b, o1, rfl, hA, hr⟩ := Row.open hins
  obtain ⟨A2, c2, b2, o2, rfl, hA2, hr2⟩ := Row.open houts
  obtain ⟨w1, hw1⟩ : ∃ w1, w1 = w.alloc (.cells #[.int .u32 (t.ver : Int), .slice A1 t.ins.length c1, .slice A2 t.outs.length c2, .int .u32 (t.lock : Int)] 26) := ⟨_, rfl⟩
  have hb1 : Below w.heap.size w w1 := by rw [hw1]; exact (Below.refl _ _).alloc (Nat.le_refl _) _
  have hsz : w1.heap.size = w.heap.size + 1 := by rw [hw1]; simp
  have HT : Hid (∀ wq, SB w1 wq → wq.cell? ⟨w.heap.size, 0, none⟩ = some (.int .u32 (t.ver : Int)) ∧ wq.cell? ⟨w.heap.size, 1, none⟩ = some (.slice A1 t.ins.length c1) ∧ wq.cell? ⟨w.heap.size, 2, none⟩ = some (.slice A2 t.outs.length c2) ∧ wq.cell? ⟨w.heap.size, 3, none⟩ = some (.int .u32 (t.lock : Int))) := fun wq hq =>
    ⟨hq.cell (by rw [hw1]; exact cell_new rfl rfl), hq.cell (by rw [hw1]; exact cell_new rfl rfl), hq.cell (by rw [hw1]; exact cell_new rfl rfl), hq.cell (by rw [hw1]; exact cell_new rfl rfl)⟩
  have HX : Hid (∀ i, i < t.ins.length → A1 = some ⟨b, o1, none⟩ ∧ ∃ As cs Aw cw, ∃ wb wo : Nat, InOk w1 w1.heap.size (t.ins.getD i In0) (.slice As (t.ins.getD i In0).sc.length cs) (.slice Aw (t.ins.getD i In0).wt.length cw) ∧ (t.ins.getD i In0).sc.length ≤ 128 ∧ (t.ins.getD i In0).wt.length ≤ 8 ∧
      (∀ wq, SB w1 wq → wq.rangeAt b (o1 + i * 36) (inV (t.ins.getD i In0) (.slice As (t.ins.getD i In0).sc.length cs) (.slice Aw (t.ins.getD i In0).wt.length cw)) ∧ wq.cell? ⟨b, o1 + i * 36 + 35, none⟩ = some (.slice Aw (t.ins.getD i In0).wt.length cw)) ∧
      ∀ k, k < (t.ins.getD i In0).wt.length → Aw = some ⟨wb, wo, none⟩ ∧ ∃ At ct, Sl w1 w1.heap.size (.slice At ((t.ins.getD i In0).wt.getD k []).length ct) ((t.ins.getD i In0).wt.getD k []) ∧ ((t.ins.getD i In0).wt.getD k []).length ≤ 128 ∧ ∀ wq, SB w1 wq → wq.cell? ⟨wb, wo + k, none⟩ = some (.slice At ((t.ins.getD i In0).wt.getD k []).length ct)) := fun i hi => by
    obtain ⟨hlt, s, u, hcx, hok⟩ := hr i hi
    have hok' := hok
    obtain ⟨hs, hu, h32, _, _⟩ := hok
    have hu' := hu
    obtain ⟨As, cs, rfl, _⟩ := hs
    obtain ⟨Aw, cw, wb, wo, rfl, hAw, hww⟩ := Row.open hu
    have hmem := getD_mem t.ins In0 i hi
    refine ⟨hA (by omega), As, cs, Aw, cw, wb, wo, (hok'.keep hb1 (Nat.le_refl _)).up hb1.size, z3 _ hmem, (z4 _ hmem).1, fun wq hq => ?_, fun k hk => ?_⟩
    · have hR : wq.rangeAt b (o1 + i * 36) (inV (t.ins.getD i In0) (.slice As (t.ins.getD i In0).sc.length cs) (.slice Aw (t.ins.getD i In0).wt.length cw)) := SB.range hq (range_keep hcx hb1 hlt) (Nat.lt_of_lt_of_le hlt hb1.size)
      exact ⟨hR, hR 35 _ (inV_at h32).2.2.2⟩
    · obtain ⟨hwl, tt, hct, hsl⟩ := hww k hk
      rw [Nat.mul_one] at hct
      have hsl' := hsl
      obtain ⟨At, ct, rfl, _⟩ := hsl
      refine ⟨hAw (by omega), At, ct, (hsl'.keep hb1 (Nat.le_refl _)).up hb1.size, (z4 _ hmem).2 _ (getD_mem _ [] k hk), fun wq hq => ?_⟩
      exact hq.cell (by rw [hb1.cell (p := ⟨wb, wo + k, none⟩) hwl]; exact hct)
  have HY : Hid (∀ i, i < t.outs.length → A2 = some ⟨b2, o2, none⟩ ∧ ∃ As cs, Sl w1 w1.heap.size (.slice As (t.outs.getD i Out0).sc.length cs) (t.outs.getD i Out0).sc ∧ (t.outs.getD i Out0).sc.length ≤ 128 ∧ -9223372036854775808 ≤ (t.outs.getD i Out0).vl ∧ (t.outs.getD i Out0).vl < 9223372036854775808 ∧
      ∀ wq, SB w1 wq → wq.cell? ⟨b2, o2 + i * 2, none⟩ = some (.int .i64 (t.outs.getD i Out0).vl) ∧ wq.cell? ⟨b2, o2 + i * 2 + 1, none⟩ = some (.slice As (t.outs.getD i Out0).sc.length cs)) := fun i hi => by
    obtain ⟨hlt, s, hcx, hs, hv1, hv2⟩ := hr2 i hi
    have hs' := hs
    obtain ⟨As, cs, rfl, _⟩ := hs
    refine ⟨hA2 (by omega), As, cs, (hs'.keep hb1 (Nat.le_refl _)).up hb1.size, z5 _ (getD_mem t.outs Out0 i hi), hv1, hv2, fun wq hq => ?_⟩
    have hR : wq.rangeAt b2 (o2 + i * 2) (outV (t.outs.getD i Out0) (.slice As (t.outs.getD i Out0).sc.length cs)) := SB.range hq (range_keep hcx hb1 hlt) (Nat.lt_of_lt_of_le hlt hb1.size)
    exact ⟨by simpa using hR 0 _ rfl, hR 1 _ rfl⟩
  have hX32 : ∀ x ∈ t.ins, (inB x).length ≤ 200 := fun x hx => by
    obtain ⟨k, hk, rfl⟩ := List.getElem_of_mem hx
    obtain ⟨_, s, u, _, _, _, h32, _, _⟩ := hr k hk
    have e : t.ins.getD k In0 = t.ins[k] := by simp [List.getD, hk]
    rw [e] at h32
    exact inB_le (z3 _ hx) h32
  have HF1 : Hid (∀ i, i ≤ t.ins.length → ((t.ins.take i).map inB).flatten.length ≤ 3200) := fun i hi => by
    have := flat_le inB 200 (t.ins.take i) (take_sub hX32)
    rw [List.length_take, Nat.min_eq_left hi] at this
    omega
  have HF2 : Hid (∀ i, i ≤ t.outs.length → ((t.outs.take i).map outB).flatten.length ≤ 3200) := fun i hi => by
    have := flat_le outB 200 (t.outs.take i) (take_sub fun x hx => outB_le (z5 x hx))
    rw [List.length_take, Nat.min_eq_left hi] at this
    omega
  have HF3 : Hid (∀ i, i ≤ t.ins.length → ((t.ins.take i).map witB).flatten.length ≤ 32000) := fun i hi => by
    have := flat_le witB 2000 (t.ins.take i) (take_sub (witB_le z4))
    rw [List.length_take, Nat.min_eq_left hi] at this
    omega
  have K4 := Lib.hid rdig4_w
  have K8 := Lib.hid rdig8_w
  have KC := Lib.hid rcount_w
  have KT := Lib.hid rtext5_w
  obtain ⟨n1, hn1⟩ : ∃ n, n = t.ins.length := ⟨_, rfl⟩
  obtain ⟨n2, hn2⟩ : ∃ n, n = t.outs.length := ⟨_, rfl⟩
  have hn16 : n1 ≤ 16 := by omega
  have hn26 : n2 ≤ 16 := by omega
  obtain ⟨ver, hv⟩ : ∃ n, n = t.ver := ⟨_, rfl⟩
  obtain ⟨lock, hlk⟩ : ∃ n, n = t.lock := ⟨_, rfl⟩
  have KV := Lib.hid (fun wq => rdig4_any ver wq (by omega))
  have Hlk : Hid (lock < 4294967296) := show lock < 4294967296 by omega
  have hwv : IntKind.u64.wrap (ver : Int) = (ver : Int) := by rw [IntKind.wrap_u64]; omega
  have hwl : IntKind.u64.wrap (lock : Int) = (lock : Int) := by rw [IntKind.wrap_u64]; omega
  have hwn1 : IntKind.u64.wrap (n1 : Int) = (n1 : Int) := by rw [IntKind.wrap_u64]; omega
  have hwn2 : IntKind.u64.wrap (n2 : Int) = (n2 : Int) := by rw [IntKind.wrap_u64]; omega
  have HLay : Hid (layB t false = les ver 4 ++ form n1 ++ (t.ins.map inB).flatten ++ form n2 ++ (t.outs.map outB).flatten ++ les lock 4) := show layB t false = les ver 4 ++ form n1 ++ (t.ins.map inB).flatten ++ form n2 ++ (t.outs.map outB).flatten ++ les lock 4 by rw [hn1, hn2, hv, hlk]; simp [layB]
  have hTot1 : (t.ins.take n1) = t.ins := by rw [hn1]; exact List.take_of_length_le (Nat.le_refl _)
  have hTot2 : (t.outs.take n2) = t.outs := by rw [hn2]; exact List.take_of_length_le (Nat.le_refl _)
  have HTot := Lib.hid (⟨hTot1, hTot2⟩ : _ ∧ _)
  have HSu1 : Hid (∀ i, i < n1 → ((t.ins.take (i + 1)).map inB).flatten = ((t.ins.take i).map inB).flatten ++ inB (t.ins.getD i In0)) := fun i hi => flat_succ inB t.ins In0 i (by omega)
  have HSu2 : Hid (∀ i, i < n2 → ((t.outs.take (i + 1)).map outB).flatten = ((t.outs.take i).map outB).flatten ++ outB (t.outs.getD i Out0)) := fun i hi => flat_succ outB t.outs Out0 i (by omega)
  have HSu3 : Hid (∀ i, i < n1 → ((t.ins.take (i + 1)).map witB).flatten = ((t.ins.take i).map witB).flatten ++ witB (t.ins.getD i In0)) := fun i hi => flat_succ witB t.ins In0 i (by omega)
  unfold txV
  rw [← hn1] at HX HF1 HF3 hw1 HT ⊢
  rw [← hn2] at HY HF2 hw1 HT ⊢
  rw [← hv] at hw1 HT ⊢
  rw [← hlk] at hw1 HT ⊢
  have Hb1 := Lib.hid hb1
  have Hts : Hid (w.heap.size ≤ w1.heap.size) := hb1.size
  have HW := Lib.hid hw1
  clear hins houts hins' houts' z1 z2 z3 z4 z5 hc hr hr2 hA hA2 hver hlock hX32 hTot1 hTot2 hn1 hn2 hv hlk hb1 hw1 hsz
  obtain ⟨Fl, hFl⟩ : ∃ L, L = layB t false := ⟨_, rfl⟩
  rw [← hFl] at HLay ⊢
  clear hFl
  go_enter Tryd.func29, Tryd.ntmps29
  go_upto_region 1 with fail
  rw [← HW.out]
  generalize w.heap.size = tb at HT ⊢
  obtain ⟨W1, hW1⟩ : ∃ W, W = w1 := ⟨_, rfl⟩
  rw [← hW1] at HT HX HY Hb1 Hts ⊢
  clear hW1 HW
  have hT := HT.out W1 (SB.refl W1)
  obtain ⟨d0, _, _, _⟩ := hT
  go_upto_region 2 with (go_at_call 49; (with_reducible refine (KV.out _).mono ?_); rintro e w2 ⟨v2, rfl, ho2, hb2⟩; have HQ : Hid (LQ W1 v2 (les ver 4) w2) := (⟨hb2, ho2⟩ : LQ W1 v2 (les ver 4) w2); clear ho2 hb2; dsimp only)
  clear d0 KV hwv
  go_upto_region 4 with fail
  obtain ⟨P0, hP0⟩ : ∃ P, P = les ver 4 := ⟨_, rfl⟩
  have hp0 : P0.length ≤ 6 := by rw [hP0]; simp [les_len]
  rw [← hP0] at HQ
  have HP0 := Lib.hid hP0
  clear hP0
  have dT := (HT.out _ HQ.out.sb).2.1
  go_upto_region 5 with (first
    | (go_at_call 50; (with_reducible refine (KC.out n1 _ (by omega)).mono ?_); rintro e w2 ⟨A2, c2, rfl, hs2, hn2, hb2⟩; have HQ2 := Lib.hid (HQ.out.next hb2); have HS2 := Lib.hid hs2; have HN2 := Lib.hid hn2; clear hs2 hn2 hb2; dsimp only)
    | ((with_reducible show wpList _ _ _ ((⟨some 26, _, _, _, _, _⟩ : Oper) :: _) _ _); refine wpList_pushT (W1 := W1) (o := ⟨some 26, _, _, _, _, _⟩) rfl (.tmp 20) (.tmp 25) rfl rfl _ (P0) (form n1) rfl HQ2.out A2 1 c2 rfl (by rw [form_small (by omega)]; rfl) HS2.out HN2.out (by rw [form_small (show n1 < 253 by omega)]; simp; omega) ?_; intro v' w' h1 h2 h3))
  have HQ := Lib.hid h1
  clear h1 h2 h3 HQ2 HS2 HN2
  obtain ⟨P1, hP1⟩ : ∃ P, P = P0 ++ form n1 := ⟨_, rfl⟩
  have hp1 : P1.length ≤ 7 := by rw [hP1, form_small (by omega)]; simp; omega
  rw [← hP1] at HQ
  have HP1 := Lib.hid hP1
  clear hP1 dT
  go_wp2_with fail
  go_loopw [5, 6] (fun v iv wq => ∃ i : Nat, i ≤ n1 ∧ iv = .int .i64 (i : Int) ∧ LQ W1 v (P1 ++ ((t.ins.take i).map inB).flatten) wq) (fun _ iv _ => n1 - (intOf iv).toNat)
  case atStart => exact ⟨0, Nat.zero_le _, rfl, by simpa using HQ.out⟩
  case round =>
    obtain ⟨i, hi, rfl, hq⟩ := hrel
    clear HQ
    obtain ⟨hT0, hT1, hT2, hT3⟩ := HT.out _ hq.sb
    by_cases hi1 : i < n1
    · have hi2 : (i : Int) < (n1 : Int) := by omega
      obtain ⟨rfl, As, cs, Aw, cw, wb, wo, hok, hsc, hwt, hR, _⟩ := HX.out i hi1
      obtain ⟨x, hx⟩ : ∃ x, x = t.ins.getD i In0 := ⟨_, rfl⟩
      rw [← hx] at hok hsc hwt hR
      have hbd := HF1.out i hi
      obtain ⟨L, hL⟩ : ∃ L, L = P1 ++ ((t.ins.take i).map inB).flatten := ⟨_, rfl⟩
      have hLl : L.length ≤ 3300 := by rw [hL, List.length_append]; omega
      rw [← hL] at hq
      have HSx : Hid (P1 ++ ((t.ins.take (i + 1)).map inB).flatten = L ++ x.tx ++ les x.ix 4 ++ txt x.sc ++ les x.sq 4) := show P1 ++ ((t.ins.take (i + 1)).map inB).flatten = L ++ x.tx ++ les x.ix 4 ++ txt x.sc ++ les x.sq 4 by rw [HSu1.out i hi1, ← hx, hL]; simp [inB]
      obtain ⟨hRq, _⟩ := hR wr hq.sb
      have Hok := Lib.hid hok
      have h32 := hok.2.2.1
      have H32 := Lib.hid h32
      have HQ := Lib.hid hq
      have hz := zero57
      obtain ⟨ls, hls⟩ : ∃ n, n = x.sc.length := ⟨_, rfl⟩
      obtain ⟨lw, hlw⟩ : ∃ n, n = x.wt.length := ⟨_, rfl⟩
      rw [← hls] at hsc hRq Hok
      rw [← hlw] at hRq Hok
      have Hls := Lib.hid hls
      have HRq := Lib.hid hRq
      have HBX := Lib.hid (in_box wr (s := .slice As ls cs) (u := .slice Aw lw cw) h32)
      have HBT := Lib.hid (in_there wr (s := .slice As ls cs) (u := .slice Aw lw cw) h32)
      have HO1 := Lib.hid (inV_oneO Hok.out)
      clear hq hok hR hx hL hbd hRq h32 hls hlw hwt
      go_upto_region 9 with (first
        | (with_reducible refine wpList_load_mid rfl 57 (.tmp 37) rfl b (o1 + i * 36) rfl (inV x (.slice As ls cs) (.slice Aw lw cw)) _ HRq.out Tryd.underlying57 rfl (info57x H32.out) ?_)
        | (with_reducible refine wpList_store_mid rfl 57 (.tmp 7) (.tmp 38) rfl wr.heap.size 0 (inV x (.slice As ls cs) (.slice Aw lw cw)).toArray rfl rfl HBT.out (info57v H32.out) (all_oneCell_toArray HO1.out) ?_))
      try dsimp only [Act.put]
      have hbk := HBX.out.1
      have hq := HQ.out.next HBX.out.2
      generalize (wr.alloc (.cells zIn.toArray 57)).setCells wr.heap.size 0 (inV x (.slice As ls cs) (.slice Aw lw cw)) = W3 at hbk hq ⊢
      generalize wr.heap.size = g at hbk ⊢
      have HQ0 := Lib.hid hq
      have HBk0 := Lib.hid hbk
      clear hq hbk HBX HBT HO1 HRq HQ hz hT0 hT1 hT2 hT3
      go_wp2_with fail
      go_loopw [5, 8] (fun v kv wq => ∃ k : Nat, k ≤ 32 ∧ kv = .int .i64 (k : Int) ∧ LQ W1 v (L ++ x.tx.take k) wq ∧ Blk wq g 57 (inV x (.slice As ls cs) (.slice Aw lw cw))) (fun _ kv _ => 32 - (intOf kv).toNat)
      case atStart => exact ⟨0, Nat.zero_le _, rfl, by simpa using HQ0.out, HBk0.out⟩
      case round =>
        obtain ⟨k, hk, rfl, hq, hbk⟩ := hrel
        clear HQ0 HBk0
        have HQ := Lib.hid hq
        have HBk := Lib.hid hbk
        by_cases hk1 : k < 32
        · have hk2 : (k : Int) < 32 := by omega
          have hk0 : (0 : Int) ≤ (k : Int) := by omega
          have e : x.tx.take (k + 1) = x.tx.take k ++ [x.tx.getD k 0] := by have := H32.out; rw [List.take_succ_eq_append_getElem (by omega)]; simp [List.getD, this, hk1]
          have c0 := hbk.cell (inV_tx (x := x) (s := .slice As ls cs) (v := .slice Aw lw cw) (j := k) (by rw [H32.out]; exact hk1))
          obtain ⟨y, hy⟩ : ∃ y, y = x.tx.getD k 0 := ⟨_, rfl⟩
          rw [← hy] at c0 e
          have He := Lib.hid e
          have hlt : (L ++ x.tx.take k).length ≤ 3400 := by rw [List.length_append, List.length_take]; omega
          have HQ2 := Lib.hid (hq.next ((Below.refl _ _).alloc (Nat.le_refl _) (.cells #[.int .u8 (Bt y)] 5)))
          have HS2 := Lib.hid (src_one wr y)
          have HBk2 := Lib.hid (hbk.alloc (.cells #[.int .u8 (Bt y)] 5))
          clear hq hbk e hy
          go_wp2_with ((with_reducible show wpList _ _ _ ((⟨some 50, _, _, _, _, _⟩ : Oper) :: _) _ _); refine wpList_pushT (W1 := W1) (o := ⟨some 50, _, _, _, _, _⟩) rfl (.tmp 43) (.tmp 49) rfl rfl _ (L ++ x.tx.take k) [y] rfl HQ2.out (some ⟨wr.heap.size, 0, none⟩) 1 1 rfl (one_len _) HS2.out (fun h => by cases h) (by simp only [List.length_cons, List.length_nil]; omega) ?_; intro v' w' h1 h2 h3)
          have h4 := h3 _ _ _ (by decide) HBk2.out
          clear c0 hk0
          go_roundw
          case rel => exact ⟨k + 1, by omega, by go_num, by rw [He.out, ← List.append_assoc]; exact h1, h4⟩
          case measure => simp [intOf]; omega
        · obtain rfl : k = 32 := by omega
          have e32 : x.tx.take 32 = x.tx := List.take_of_length_le (by rw [H32.out]; exact Nat.le_refl _)
          rw [e32] at HQ
          have hlt : (L ++ x.tx).length ≤ 3400 := by rw [List.length_append, H32.out]; omega
          obtain ⟨e32a, e33a, e34a, _⟩ := inV_at (x := x) (s := .slice As ls cs) (v := .slice Aw lw cw) H32.out
          obtain ⟨hs, hu, _, hix, hsq⟩ := Hok.out
          have hwx : IntKind.u64.wrap (x.ix : Int) = (x.ix : Int) := by rw [IntKind.wrap_u64]; omega
          have hws : IntKind.u64.wrap (x.sq : Int) = (x.sq : Int) := by rw [IntKind.wrap_u64]; omega
          have ec : ((32 : Nat) : Int) = 32 := rfl
          rw [ec]
          have c32 := hbk.cell e32a
          clear hq hbk e32
          go_upto_region 14 with (first
            | (go_at_call 49; (with_reducible refine (K4.out x.ix _ hix).mono ?_); rintro e w2 ⟨A2, c2, rfl, hs2, hn2, hb2⟩; have HQ2 := Lib.hid (HQ.out.next hb2); have HBk2 := Lib.hid (HBk.out.below hb2 HBk.out.lt); have HS2 := Lib.hid hs2; have HN2 := Lib.hid hn2; clear hs2 hn2 hb2; dsimp only)
            | ((with_reducible show wpList _ _ _ ((⟨some 57, _, _, _, _, _⟩ : Oper) :: _) _ _); refine wpList_pushT (W1 := W1) (o := ⟨some 57, _, _, _, _, _⟩) rfl (.tmp 51) (.tmp 56) rfl rfl _ (L ++ x.tx) (les x.ix 4) rfl HQ2.out A2 4 c2 rfl (by rw [les_len]) HS2.out HN2.out (by rw [les_len]; omega) ?_; intro v' w' h1 h2 h3))
          have HBk := Lib.hid (h3 _ _ _ (by decide) HBk2.out)
          have HQ := Lib.hid h1
          clear h1 h2 h3 HQ2 HS2 HN2 HBk2
          have hlt2 : (L ++ x.tx ++ les x.ix 4).length ≤ 3410 := by rw [List.length_append, les_len]; omega
          have c33 := HBk.out.cell e33a
          clear c32
          obtain ⟨mt, hmt⟩ : ∃ m, m = (txt x.sc).length := ⟨_, rfl⟩
          have htl := txt_len x.sc
          rw [← hmt, ← Hls.out] at htl
          have KTx := Lib.hid (fun wq (hq : SB W1 wq) => KT.out As x.sc ls mt cs wq Hls.out.symm hmt.symm (sl_rd hs hq).1 (sl_rd hs hq).2 (by omega))
          go_upto_region 15 with (first
            | (go_at_call 51; (with_reducible refine (KTx.out _ HQ.out.sb).mono ?_); rintro e w2 ⟨A2, c2, rfl, hs2, hn2, hb2⟩; have HQ2 := Lib.hid (HQ.out.next hb2); have HBk2 := Lib.hid (HBk.out.below hb2 HBk.out.lt); have HS2 := Lib.hid hs2; have HN2 := Lib.hid hn2; clear hs2 hn2 hb2; dsimp only)
            | ((with_reducible show wpList _ _ _ ((⟨some 62, _, _, _, _, _⟩ : Oper) :: _) _ _); refine wpList_pushT (W1 := W1) (o := ⟨some 62, _, _, _, _, _⟩) rfl (.tmp 58) (.tmp 61) rfl rfl _ (L ++ x.tx ++ les x.ix 4) (txt x.sc) rfl HQ2.out A2 mt c2 rfl (by rw [hmt]) HS2.out HN2.out (by rw [← hmt]; omega) ?_; intro v' w' h1 h2 h3))
          have HBk := Lib.hid (h3 _ _ _ (by decide) HBk2.out)
          have HQ := Lib.hid h1
          clear h1 h2 h3 HQ2 HS2 HN2 HBk2
          have hlt3 : (L ++ x.tx ++ les x.ix 4 ++ txt x.sc).length ≤ 3560 := by rw [List.length_append, ← hmt]; omega
          have c34 := HBk.out.cell e34a
          clear c33
          go_wp2_with (first
            | (go_at_call 49; (with_reducible refine (K4.out x.sq _ hsq).mono ?_); rintro e w2 ⟨A2, c2, rfl, hs2, hn2, hb2⟩; have HQ2 := Lib.hid (HQ.out.next hb2); have HBk2 := Lib.hid (HBk.out.below hb2 HBk.out.lt); have HS2 := Lib.hid hs2; have HN2 := Lib.hid hn2; clear hs2 hn2 hb2; dsimp only)
            | ((with_reducible show wpList _ _ _ ((⟨some 68, _, _, _, _, _⟩ : Oper) :: _) _ _); refine wpList_pushT (W1 := W1) (o := ⟨some 68, _, _, _, _, _⟩) rfl (.tmp 63) (.tmp 67) rfl rfl _ (L ++ x.tx ++ les x.ix 4 ++ txt x.sc) (les x.sq 4) rfl HQ2.out A2 4 c2 rfl (by rw [les_len]) HS2.out HN2.out (by rw [les_len]; omega) ?_; intro v' w' h1 h2 h3))
          have HBk := Lib.hid (h3 _ _ _ (by decide) HBk2.out)
          have HQ := Lib.hid h1
          clear h1 h2 h3 HQ2 HS2 HN2 HBk2
          clear c34
          go_roundw
          case rel => exact ⟨i + 1, by omega, by go_num, by rw [HSx.out]; exact HQ.out⟩
          case measure => simp [intOf]; omega
    · obtain rfl : i = n1 := by omega
      rw [HTot.out.1] at hq
      have hbd := HF1.out i (Nat.le_refl _)
      rw [HTot.out.1] at hbd
      obtain ⟨P2, hP2⟩ : ∃ P, P = P1 ++ (t.ins.map inB).flatten := ⟨_, rfl⟩
      have hp2 : P2.length ≤ 3300 := by rw [hP2, List.length_append]; omega
      rw [← hP2] at hq
      have HP2 := Lib.hid hP2
      have HQ := Lib.hid hq
      clear hq hP2 hbd hT0 hT3
      go_upto_region 17 with (first
        | (go_at_call 50; (with_reducible refine (KC.out n2 _ (by omega)).mono ?_); rintro e w2 ⟨A2, c2, rfl, hs2, hn2, hb2⟩; have HQ2 := Lib.hid (HQ.out.next hb2); have HS2 := Lib.hid hs2; have HN2 := Lib.hid hn2; clear hs2 hn2 hb2; dsimp only)
        | ((with_reducible show wpList _ _ _ ((⟨some 75, _, _, _, _, _⟩ : Oper) :: _) _ _); refine wpList_pushT (W1 := W1) (o := ⟨some 75, _, _, _, _, _⟩) rfl (.tmp 69) (.tmp 74) rfl rfl _ (P2) (form n2) rfl HQ2.out A2 1 c2 rfl (by rw [form_small (by omega)]; rfl) HS2.out HN2.out (by rw [form_small (show n2 < 253 by omega)]; simp; omega) ?_; intro v' w' h1 h2 h3))
      have HQ := Lib.hid h1
      clear h1 h2 h3 HQ2 HS2 HN2
      obtain ⟨P3, hP3⟩ : ∃ P, P = P2 ++ form n2 := ⟨_, rfl⟩
      have hp3 : P3.length ≤ 3310 := by rw [hP3, form_small (show n2 < 253 by omega)]; simp; omega
      rw [← hP3] at HQ
      have HP3 := Lib.hid hP3
      clear hP3 hT1 hT2
      go_wp2_with fail
      go_loopw [5, 9] (fun v iv wq => ∃ j : Nat, j ≤ n2 ∧ iv = .int .i64 (j : Int) ∧ LQ W1 v (P3 ++ ((t.outs.take j).map outB).flatten) wq) (fun _ iv _ => n2 - (intOf iv).toNat)
      case atStart => exact ⟨0, Nat.zero_le _, rfl, by simpa using HQ.out⟩
      case round =>
        obtain ⟨j, hj, rfl, hq⟩ := hrel
        clear HQ
        obtain ⟨hT0, hT1, hT2, hT3⟩ := HT.out _ hq.sb
        by_cases hj1 : j < n2
        · have hj2 : (j : Int) < (n2 : Int) := by omega
          obtain ⟨rfl, As, cs, hsl, hsc, hv1, hv2, hR⟩ := HY.out j hj1
          obtain ⟨y, hy⟩ : ∃ y, y = t.outs.getD j Out0 := ⟨_, rfl⟩
          rw [← hy] at hsl hsc hv1 hv2 hR
          have hbd := HF2.out j hj
          obtain ⟨L, hL⟩ : ∃ L, L = P3 ++ ((t.outs.take j).map outB).flatten := ⟨_, rfl⟩
          have hLl : L.length ≤ 6600 := by rw [hL, List.length_append]; omega
          rw [← hL] at hq
          have HSx : Hid (P3 ++ ((t.outs.take (j + 1)).map outB).flatten = L ++ les (uvl y) 8 ++ txt y.sc) := show P3 ++ ((t.outs.take (j + 1)).map outB).flatten = L ++ les (uvl y) 8 ++ txt y.sc by rw [HSu2.out j hj1, ← hy, hL]; simp [outB_uv]
          obtain ⟨hr0, hr1⟩ := hR wr hq.sb
          obtain ⟨ls, hls⟩ : ∃ n, n = y.sc.length := ⟨_, rfl⟩
          rw [← hls] at hsc hsl hr1 hR
          have Hls := Lib.hid hls
          have HR := Lib.hid hR
          have Hsl := Lib.hid hsl
          obtain ⟨z, hz⟩ : ∃ z, z = uvl y := ⟨_, rfl⟩
          rw [← hz] at HSx
          have hzw : IntKind.u64.wrap y.vl = (z : Int) := by rw [hz]; exact uvl_wrap y
          have hzl : z < 18446744073709551616 := by rw [hz]; exact uvl_lt y
          obtain ⟨vl, hvl⟩ : ∃ v, v = y.vl := ⟨_, rfl⟩
          rw [← hvl] at hr0 hzw
          have HQ := Lib.hid hq
          clear hq hy hL hbd hz hvl hls hr1 hR hsl hv1 hv2
          go_upto_region 21 with (first
            | (go_at_call 49; (with_reducible refine (K8.out z _ hzl).mono ?_); rintro e w2 ⟨A2, c2, rfl, hs2, hn2, hb2⟩; have HQ2 := Lib.hid (HQ.out.next hb2); have HS2 := Lib.hid hs2; have HN2 := Lib.hid hn2; clear hs2 hn2 hb2; dsimp only)
            | ((with_reducible show wpList _ _ _ ((⟨some 92, _, _, _, _, _⟩ : Oper) :: _) _ _); refine wpList_pushT (W1 := W1) (o := ⟨some 92, _, _, _, _, _⟩) rfl (.tmp 83) (.tmp 91) rfl rfl _ (L) (les z 8) rfl HQ2.out A2 8 c2 rfl (by rw [les_len]) HS2.out HN2.out (by rw [les_len]; omega) ?_; intro v' w' h1 h2 h3))
          have HQ := Lib.hid h1
          clear h1 h2 h3 HQ2 HS2 HN2
          have hlt2 : (L ++ les z 8).length ≤ 6610 := by rw [List.length_append, les_len]; omega
          clear hT0 hT1 hT2 hT3 hr0 hzw
          obtain ⟨_, hT1, hT2, _⟩ := HT.out _ HQ.out.sb
          have hr1 := (HR.out _ HQ.out.sb).2
          obtain ⟨mt, hmt⟩ : ∃ m, m = (txt y.sc).length := ⟨_, rfl⟩
          have htl := txt_len y.sc
          rw [← hmt, ← Hls.out] at htl
          have KTx := Lib.hid (fun wq (hq : SB W1 wq) => KT.out As y.sc ls mt cs wq Hls.out.symm hmt.symm (sl_rd Hsl.out hq).1 (sl_rd Hsl.out hq).2 (by omega))
          go_wp2_with (first
            | (go_at_call 51; (with_reducible refine (KTx.out _ HQ.out.sb).mono ?_); rintro e w2 ⟨A2, c2, rfl, hs2, hn2, hb2⟩; have HQ2 := Lib.hid (HQ.out.next hb2); have HS2 := Lib.hid hs2; have HN2 := Lib.hid hn2; clear hs2 hn2 hb2; dsimp only)
            | ((with_reducible show wpList _ _ _ ((⟨some 101, _, _, _, _, _⟩ : Oper) :: _) _ _); refine wpList_pushT (W1 := W1) (o := ⟨some 101, _, _, _, _, _⟩) rfl (.tmp 93) (.tmp 100) rfl rfl _ (L ++ les z 8) (txt y.sc) rfl HQ2.out A2 mt c2 rfl (by rw [hmt]) HS2.out HN2.out (by rw [← hmt]; omega) ?_; intro v' w' h1 h2 h3))
          have HQ := Lib.hid h1
          clear h1 h2 h3 HQ2 HS2 HN2
          clear hr1 hT1 hT2
          go_roundw
          case rel => exact ⟨j + 1, by omega, by go_num, by rw [HSx.out]; exact HQ.out⟩
          case measure => simp [intOf]; omega
        · obtain rfl : j = n2 := by omega
          rw [HTot.out.2] at hq
          have hbd := HF2.out j (Nat.le_refl _)
          rw [HTot.out.2] at hbd
          obtain ⟨P4, hP4⟩ : ∃ P, P = P3 ++ (t.outs.map outB).flatten := ⟨_, rfl⟩
          have hp4 : P4.length ≤ 6600 := by rw [hP4, List.length_append]; omega
          rw [← hP4] at hq
          have HP4 := Lib.hid hP4
          have HQ := Lib.hid hq
          clear hq hP4 hbd hT0 hT3
          go_wp2_with fail
          go_loopw [5, 10] (fun v av wq => av = .int .i64 0 ∧ LQ W1 v P4 wq) (fun _ _ _ => 0)
          case atStart => exact ⟨rfl, HQ.out⟩
          case round =>
            obtain ⟨rfl, hq⟩ := hrel
            clear HQ hT1 hT2
            obtain ⟨hT0, hT1, hT2, hT3⟩ := HT.out _ hq.sb
            have HQ := Lib.hid hq
            clear hq
            by_cases ha : 0 < i
            · have ha2 : (0 : Int) < (i : Int) := by omega
              go_wp2_with (first
                | (go_at_call 49; (with_reducible refine (K4.out lock _ Hlk.out).mono ?_); rintro e w2 ⟨A2, c2, rfl, hs2, hn2, hb2⟩; have HQ2 := Lib.hid (HQ.out.next hb2); have HS2 := Lib.hid hs2; have HN2 := Lib.hid hn2; clear hs2 hn2 hb2; dsimp only)
                | ((with_reducible show wpList _ _ _ ((⟨some 151, _, _, _, _, _⟩ : Oper) :: _) _ _); refine wpList_pushT (W1 := W1) (o := ⟨some 151, _, _, _, _, _⟩) rfl (.tmp 146) (.tmp 150) rfl rfl _ (P4) (les lock 4) rfl HQ2.out A2 4 c2 rfl (by rw [les_len]) HS2.out HN2.out (by rw [les_len]; omega) ?_; intro v' w' h1 h2 h3))
              have HQ := Lib.hid h1
              clear h1 h2 h3 HQ2 HS2 HN2
              go_ret
              exact ⟨_, rfl, by rw [HLay.out, ← HP0.out, ← HP1.out, ← HP2.out, ← HP3.out, ← HP4.out]; exact HQ.out.ob.base Hb1.out.size, Hb1.out.trans (Below.mono HQ.out.sb Hb1.out.size)⟩
            · have ha2 : ¬ (0 : Int) < (i : Int) := by omega
              go_wp2_with (first
                | (go_at_call 49; (with_reducible refine (K4.out lock _ Hlk.out).mono ?_); rintro e w2 ⟨A2, c2, rfl, hs2, hn2, hb2⟩; have HQ2 := Lib.hid (HQ.out.next hb2); have HS2 := Lib.hid hs2; have HN2 := Lib.hid hn2; clear hs2 hn2 hb2; dsimp only)
                | ((with_reducible show wpList _ _ _ ((⟨some 151, _, _, _, _, _⟩ : Oper) :: _) _ _); refine wpList_pushT (W1 := W1) (o := ⟨some 151, _, _, _, _, _⟩) rfl (.tmp 146) (.tmp 150) rfl rfl _ (P4) (les lock 4) rfl HQ2.out A2 4 c2 rfl (by rw [les_len]) HS2.out HN2.out (by rw [les_len]; omega) ?_; intro v' w' h1 h2 h3))
              have HQ := Lib.hid h1
              clear h1 h2 h3 HQ2 HS2 HN2
              go_ret
              exact ⟨_, rfl, by rw [HLay.out, ← HP0.out, ← HP1.out, ← HP2.out, ← HP3.out, ← HP4.out]; exact HQ.out.ob.base Hb1.out.size, Hb1.out.trans (Below.mono HQ.out.sb Hb1.out.size)⟩
end Go.Proofs.YtnkkhmgplpkjbaaDoor
