/- What parsed returns. What tx.Parse returns, and what the reader is then. Plain: what is laid is parsed as it was, and what is parsed is laid as just those bytes. Plain: the whole transaction, there and back. Plain: what Parse answers without an error is laid as just the bytes that were taken, and may be put; its errors are two. What the law package's given and witnessed return. -/
import Derived.Test.YtnkkhmgplpkjbaaZoa
import Derived.Test.YtnkkhmgplpkjbaaZob
import Derived.Test.YtnkkhmgplpkjbaaZoc
import Derived.Test.YtnkkhmgplpkjbaaZod
import Derived.Test.YtnkkhmgplpkjbaaZoe
import Derived.Outline
namespace Go.Proofs.Ytnkkhmgplpkjbaa
open Go.RowKit
set_option linter.unusedVariables false
set_option linter.unusedSimpArgs false
set_option maxRecDepth 100000
theorem rIns_short {s : Option (List (BitVec 8))} {k : Nat} (h : Short s k) : Short (rIns s).2.2 k := by
  have key : ∀ (n : Nat) (s : Option (List (BitVec 8))), Short s k → Short (rN n s).2.2 k := by
    intro n
    induction n with
    | zero => exact fun s h => h
    | succ n ih =>
      intro s h
      by_cases h0 : rInE s = 0
      · simp only [rN, h0, if_true]; exact ih _ (rInS_short h)
      · simp only [rN, h0, if_false]; exact rInS_short h
  unfold rIns
  split
  · exact key _ _ (gS_short h)
  · exact gS_short h
theorem rIns_len (s : Option (List (BitVec 8))) : (rIns s).2.1.length ≤ 16 := by
  have key : ∀ (n : Nat) (s : Option (List (BitVec 8))), (rN n s).2.1.length ≤ n := by
    intro n
    induction n with
    | zero => exact fun s => Nat.le_refl _
    | succ n ih =>
      intro s
      by_cases h0 : rInE s = 0
      · simp only [rN, h0, if_true, List.length_cons]; exact Nat.succ_le_succ (ih _)
      · simp only [rN, h0, if_false]; exact Nat.zero_le _
  unfold rIns
  split
  · rename_i h; exact Nat.le_trans (key _ _) (pE0 h)
  · exact Nat.zero_le _
theorem rOuts_short {s : Option (List (BitVec 8))} {k : Nat} (h : Short s k) : Short (rOuts s).2.2 k := by
  have key : ∀ (n : Nat) (s : Option (List (BitVec 8))), Short s k → Short (rO n s).2.2 k := by
    intro n
    induction n with
    | zero => exact fun s h => h
    | succ n ih =>
      intro s h
      by_cases h0 : tE (numS s 8) 128 = 0
      · simp only [rO, h0, if_true]; exact ih _ (tS_short (numS_short h _) _)
      · simp only [rO, h0, if_false]; exact tS_short (numS_short h _) _
  unfold rOuts
  split
  · exact key _ _ (gS_short h)
  · exact gS_short h
theorem rOuts_len (s : Option (List (BitVec 8))) : (rOuts s).2.1.length ≤ 16 := by
  have key : ∀ (n : Nat) (s : Option (List (BitVec 8))), (rO n s).2.1.length ≤ n := by
    intro n
    induction n with
    | zero => exact fun s => Nat.le_refl _
    | succ n ih =>
      intro s
      by_cases h0 : tE (numS s 8) 128 = 0
      · simp only [rO, h0, if_true, List.length_cons]; exact Nat.succ_le_succ (ih _)
      · simp only [rO, h0, if_false]; exact Nat.zero_le _
  unfold rOuts
  split
  · rename_i h; exact Nat.le_trans (key _ _) (pE0 h)
  · exact Nat.zero_le _
/-- Within parsed: the reader, the result's block, the transaction's block. -/
structure PS (w W : World) (B : Nat) (p : Option Nat) (rv tb : Nat) (V : List Value) (s : Option (List (BitVec 8))) : Prop where
  rd : IsR W B p s
  gr : w.grownBy W p
  rvb : Blk W rv 33 [.int .u32 0, .slice none 0 0, .slice none 0 0, .int .u32 0]
  tbb : Blk W tb 33 V
  ne : rv ≠ tb
  rn : w.heap.size ≤ rv
  tn : w.heap.size ≤ tb
  hB : B ≤ W.heap.size
theorem PS.call {w W W' : World} {B rv tb : Nat} {p : Option Nat} {V : List Value} {s s' : Option (List (BitVec 8))} (h : PS w W B p rv tb V s) (hi : IsR W' B p s') (hg : W.grownBy W' p) : PS w W' B p rv tb V s' :=
  ⟨hi, grown_trans h.gr hg, h.rvb.grown hg (h.rd.ne h.rvb (by decide)), h.tbb.grown hg (h.rd.ne h.tbb (by decide)), h.ne, h.rn, h.tn, Nat.le_trans h.hB hg.size⟩
theorem PS.same {w W W' : World} {B rv tb : Nat} {p : Option Nat} {V : List Value} {s : Option (List (BitVec 8))} (h : PS w W B p rv tb V s) (hb : Below W.heap.size W W') : PS w W' B p rv tb V s :=
  h.call (h.rd.below hb h.hB) ⟨hb.os, hb.tape, hb.output, hb.size, fun k hk _ => hb.block k hk⟩
theorem PS.set {w W : World} {B rv tb : Nat} {p : Option Nat} {V : List Value} {s : Option (List (BitVec 8))} (h : PS w W B p rv tb V s) (o : Nat) (v : Value) : PS w (W.setCell ⟨tb, o, none⟩ v) B p rv tb (V.set o v) s :=
  ⟨h.rd.store h.tbb (by decide) (by decide) _ _, Fr.grown h.gr (Fr.store _ _ _ _ _) h.tn, h.rvb.other (by exact h.ne) v, h.tbb.set _ _, h.ne, h.rn, h.tn, Nat.le_trans h.hB (Fr.store W p tb o v).size⟩
theorem PS.fr {w W W' : World} {B rv tb b : Nat} {p : Option Nat} {V us : List Value} {s s' : Option (List (BitVec 8))} (h : PS w W B p rv tb V s) (hi : IsR W' B p s') (hf : Fr W W' p (some b)) (hb : Blk W b 60 us) (hn : w.heap.size ≤ b) : PS w W' B p rv tb V s' :=
  ⟨hi, Fr.grown h.gr hf hn, h.rvb.fr hf (h.rd.ne h.rvb (by decide)) (fun e => by injection e with e; exact h.rvb.apart hb (by decide) e), h.tbb.fr hf (h.rd.ne h.tbb (by decide)) (fun e => by injection e with e; exact h.tbb.apart hb (by decide) e), h.ne, h.rn, h.tn, Nat.le_trans h.hB hf.size⟩
theorem info26 : (Try.prog.info? 33).map (·.size) = some 4 := by kernel_rfl
theorem PS.fin {w W W' : World} {B rv tb : Nat} {p : Option Nat} {V : List Value} {s : Option (List (BitVec 8))} {a b c d : Value} (h : PS w W B p rv tb V s) (e : (((W.setCell ⟨rv, 0, none⟩ a).setCell ⟨rv, 1, none⟩ b).setCell ⟨rv, 2, none⟩ c).setCell ⟨rv, 3, none⟩ d = W') :
    Blk W' rv 33 [a, b, c, d] ∧ IsR W' B p s ∧ w.grownBy W' p ∧ Fr W W' p (some rv) := by
  have e' : W.setCells rv 0 [a, b, c, d] = W' := e
  rw [← e']
  have hf := Fr.stores W p rv [a, b, c, d] 0 W (Fr.refl _ _ _)
  exact ⟨h.rvb.setCells [a, b, c, d] rfl, IsR.stores (by decide) (by decide) [a, b, c, d] 0 W _ h.rvb h.rd, Fr.grown h.gr hf h.rn, hf⟩
/-- The inputs xs lie in block ib, the outputs ys in block ob. -/
def Rd1 (W : World) (ib : Nat) (xs : List TIn) : Prop := ∃ vs, InsW W xs vs ∧ Blk W ib 60 vs
def Rd2 (W : World) (ob : Nat) (ys : List TOut) : Prop := ∃ us, OutsN W us ys ∧ Blk W ob 65 us
theorem Rd1.fr {W W' : World} {ib B b : Nat} {p : Option Nat} {s : Option (List (BitVec 8))} {T : TypeId} {us : List Value} {xs : List TIn} (h : Rd1 W ib xs) (hR : IsR W B p s) (hb : Blk W b T us) (hT : T ≠ 5) (hT2 : T ≠ 22) (hT3 : T ≠ 60) (hf : Fr W W' p (some b)) : Rd1 W' ib xs := by
  obtain ⟨vs, h1, h2⟩ := h
  exact ⟨vs, InsW.fr hR hb hT hT2 hf h1, h2.fr hf (hR.ne h2 (by decide)) (fun e => by injection e with e; exact h2.apart hb (fun e => hT3 e.symm) e)⟩
theorem Rd2.fr {W W' : World} {ob B b : Nat} {p : Option Nat} {s : Option (List (BitVec 8))} {T : TypeId} {us : List Value} {ys : List TOut} (h : Rd2 W ob ys) (hR : IsR W B p s) (hb : Blk W b T us) (hT : T ≠ 5) (hT3 : T ≠ 65) (hf : Fr W W' p (some b)) : Rd2 W' ob ys := by
  obtain ⟨vs, h1, h2⟩ := h
  exact ⟨vs, h1.fr hR hb hT hf, h2.fr hf (hR.ne h2 (by decide)) (fun e => by injection e with e; exact h2.apart hb (fun e => hT3 e.symm) e)⟩
theorem Rd1.tx {W : World} {ib ob k1 k2 v l : Nat} {xs : List TIn} {ys : List TOut} (h : Rd1 W ib xs) (h2 : Rd2 W ob ys) (hx : ∀ x ∈ xs, OkIn x ∧ x.wt.length ≤ 1000000) (hy : ∀ y ∈ ys, OkOut y) (e1 : xs.length = k1) (e2 : ys.length = k2) (l1 : k1 ≤ 16) (l2 : k2 ≤ 16) (hv : v < 4294967296) (hl : l < 4294967296) :
    TxOk W W.heap.size ⟨v, xs, ys, l⟩ (.slice (some ⟨ib, 0, none⟩) k1 k1) (.slice (some ⟨ob, 0, none⟩) k2 k2) := by
  obtain ⟨vs, a, b⟩ := h
  obtain ⟨us, c, d⟩ := h2
  exact ⟨a.is b hx e1 (by omega), c.os d hy e2 (by omega), hv, hl⟩
/-- A transaction of the program's own making. -/
def TxN (w : World) (t : TTx) (i o : Value) : Prop := ∃ ib ob, i = .slice (some ⟨ib, 0, none⟩) t.ins.length t.ins.length ∧ o = .slice (some ⟨ob, 0, none⟩) t.outs.length t.outs.length ∧ Rd1 w ib t.ins ∧ Rd2 w ob t.outs ∧ (∀ x ∈ t.ins, OkIn x ∧ x.wt.length ≤ 1000000) ∧ (∀ y ∈ t.outs, OkOut y) ∧ t.ins.length ≤ 16 ∧ t.outs.length ≤ 16 ∧ t.ver < 4294967296 ∧ t.lock < 4294967296
theorem TxN.ok {w : World} {t : TTx} {i o : Value} (h : TxN w t i o) : TxOk w w.heap.size t i o := by
  obtain ⟨ib, ob, rfl, rfl, a, b, c, d, e, f, g, k⟩ := h
  exact Rd1.tx a b c d rfl rfl e f g k
theorem TxN.fr {w w' : World} {t : TTx} {i o : Value} {B b : Nat} {p : Option Nat} {s : Option (List (BitVec 8))} {us : List Value} (h : TxN w t i o) (hR : IsR w B p s) (hb : Blk w b 33 us) (hf : Fr w w' p (some b)) : TxN w' t i o := by
  obtain ⟨ib, ob, e1, e2, a, b', r⟩ := h
  exact ⟨ib, ob, e1, e2, a.fr hR hb (by decide) (by decide) (by decide) hf, b'.fr hR hb (by decide) (by decide) hf, r⟩
def ParsedPost (r : Int × TTx × Option (List (BitVec 8))) (B : Nat) (p : Option Nat) (w : World) (e : Ending) (w' : World) : Prop :=
  ∃ V L A1 n1 c1 A2 n2 c2 c, e = .returned (.tuple #[.agg #[.int .u32 V, .slice A1 n1 c1, .slice A2 n2 c2, .int .u32 L], .int .i64 c]) ∧ r.1 = c ∧ IsR w' B p r.2.2 ∧ w.grownBy w' p ∧ (c = 0 → V = (r.2.1.ver : Int) ∧ L = (r.2.1.lock : Int) ∧ TxN w' r.2.1 (.slice A1 n1 c1) (.slice A2 n2 c2))
theorem rI_n : ∀ (n : Nat) (s : Option (List (BitVec 8))), (rI n s).2.1.length ≤ n
  | 0, s => Nat.le_refl _
  | n + 1, s => by
    by_cases h0 : tE s 128 = 0
    · simp only [rI, h0, if_true, List.length_cons]; exact Nat.succ_le_succ (rI_n n _)
    · simp only [rI, h0, if_false]; exact Nat.zero_le _
theorem rW_n (s : Option (List (BitVec 8))) : (rW s).2.1.length ≤ 8 := by
  unfold rW
  split
  · rename_i h; exact Nat.le_trans (rI_n _ _) (gE_ne s 8 h)
  · exact Nat.zero_le _
theorem rX_n : ∀ (n : Nat) (s : Option (List (BitVec 8))), ∀ L ∈ (rX n s).2.1, L.length ≤ 8
  | 0, s, L, hL => by simp [rX] at hL
  | n + 1, s, L, hL => by
    by_cases h0 : (rW s).1 = 0
    · simp only [rX, h0, if_true] at hL
      rcases List.mem_cons.1 hL with rfl | hL
      · exact rW_n s
      · exact rX_n n _ L hL
    · simp only [rX, h0, if_false] at hL
      cases hL
theorem rX_short {k : Nat} : ∀ (n : Nat) (s : Option (List (BitVec 8))), Short s k → Short (rX n s).2.2 k
  | 0, _, h => h
  | n + 1, s, h => by
    by_cases h0 : (rW s).1 = 0
    · simp only [rX, h0, if_true]; exact rX_short n _ (rW_short h)
    · simp only [rX, h0, if_false]; exact rW_short h
theorem wW_wt : ∀ (xs : List TIn) (Ls : List (List (List (BitVec 8)))) (k : Nat), (∀ L ∈ Ls, L.length ≤ k) → ∀ x ∈ wW xs Ls, x.wt.length ≤ k
  | [], _, _, _, x, hx => by simp [wW] at hx
  | _ :: _, [], _, _, x, hx => by simp [wW] at hx
  | y :: ys, L :: Ls, k, h, x, hx => by
    have hx : x ∈ (⟨y.tx, y.ix, y.sc, y.sq, L⟩ : TIn) :: wW ys Ls := hx
    rcases List.mem_cons.1 hx with rfl | hx
    · exact h L (by simp)
    · exact wW_wt ys Ls k (fun z hz => h z (by simp [hz])) x hx
theorem grown_below' {w w' : World} (p : Option Nat) (hb : Below w.heap.size w w') : w.grownBy w' p := ⟨hb.os, hb.tape, hb.output, hb.size, fun k hk _ => hb.block k hk⟩
set_option maxHeartbeats 4000000 in
theorem parsed_no (p : Option Nat) (s : Option (List (BitVec 8))) (B : Nat) (w : World) (h : IsR w B p s) (hB : B ≤ w.heap.size) (hl : Short s 100000000) (hm : rM (numS s 4) = false) :
    Calls Try.prog 19 #[ptr p] w (ParsedPost (rT1 (numV s 4) false (numS s 4)) B p w) := by
  obtain ⟨q, hP⟩ : ∃ q, Value.pointer q = ptr p := ⟨_, rfl⟩
  have hW : Below w.heap.size w (w.alloc (.cells #[.int .u32 0, .slice none 0 0, .slice none 0 0, .int .u32 0] 33)) := (Below.refl _ _).alloc (Nat.le_refl _) _
  have hA := h.below hW hB
  have hv := Blk.new w 33 #[.int .u32 0, .slice none 0 0, .slice none 0 0, .int .u32 0]
  have HV := Lib.hid hv
  have HB := Lib.hid hB
  have HW := Lib.hid hW
  have HNv := Lib.hid (hA.ne hv (by decide))
  obtain ⟨n4, hn4⟩ : ∃ n, n = numV s 4 := ⟨_, rfl⟩
  have h4 := numV_4 s
  have K1 := Lib.hid (num_any p s 4 B _ hA (Nat.le_trans hB hW.size))
  obtain ⟨s1, hs1⟩ : ∃ s', s' = numS s 4 := ⟨_, rfl⟩
  have hl1 : Short s1 100000000 := by rw [hs1]; exact numS_short hl _
  rw [← hn4] at K1 h4 ⊢
  rw [← hs1] at K1 hm ⊢
  have hw4 : IntKind.u32.wrap (n4 : Int) = (n4 : Int) := by rw [IntKind.wrap_u32]; omega
  have K2 : Hid (∀ wq, IsR wq B p s1 → B ≤ wq.heap.size → Calls Try.prog 37 #[.pointer q, .int .i64 2] wq (NewPost (takeL s1 2) s1 B p wq)) := fun wq hq hBq => by rw [hP]; exact peek_any p s1 2 B wq hq hBq hl1
  have hl2 : Short s1 100000000 := hl1
  obtain ⟨X, hX⟩ : ∃ X, X = takeL s1 2 := ⟨_, rfl⟩
  have hmk : ((strB X).toList == ([0, 1] : List UInt8)) = false := by rw [mark_beq, hX]; exact hm
  rw [← hX] at K2
  have K3 : Hid (∀ wq, IsR wq B p s1 → B ≤ wq.heap.size → Calls Try.prog 39 #[.pointer q] wq (InsOut (rIns s1) B p wq)) := fun wq hq hBq => by rw [hP]; exact parsedIns_any p s1 B wq hq hBq hl2
  have HI1 := Lib.hid (rIns_ok s1)
  have HL3 := Lib.hid (rIns_short hl2)
  have HN3 := Lib.hid (rIns_len s1)
  have ht1 : rT1 n4 false s1 = if (rIns s1).1 = 0 then rT2 n4 false (rIns s1).2.1 (rIns s1).2.2 else ((rIns s1).1, ⟨n4, [], [], 0⟩, (rIns s1).2.2) := rfl
  obtain ⟨rt, hrt⟩ : ∃ r, r = rT1 n4 false s1 := ⟨_, rfl⟩
  rw [← hrt] at ht1 ⊢
  obtain ⟨ri, hri⟩ : ∃ r, r = rIns s1 := ⟨_, rfl⟩
  rw [← hri] at K3 HI1 HL3 HN3 ht1
  have HRT := Lib.hid ht1
  have H4 := Lib.hid h4
  rw [← hP] at K1 ⊢
  have HP := Lib.hid hP
  have Hm := Lib.hid hmk
  clear h hB hl hP hA hv hW hn4 hs1 hl1 hl2 hm hX hri ht1 hrt hmk
  go_enter Try.func19, Try.ntmps19
  go_upto_region 2 with (go_at_call 36; (with_reducible refine K1.out.mono ?_); rintro e w1 ⟨rfl, hi, hg⟩; dsimp only)
  have hPS : PS w (w1.alloc (.cells #[.int .u32 (n4 : Int), .slice none 0 0, .slice none 0 0, .int .u32 0] 33)) B p w.heap.size w1.heap.size [.int .u32 (n4 : Int), .slice none 0 0, .slice none 0 0, .int .u32 0] s1 := by
    have hs1 : w.heap.size < w1.heap.size := Nat.lt_of_lt_of_le HV.out.lt hg.size
    have hbw : Below w1.heap.size w1 (w1.alloc (.cells #[.int .u32 (n4 : Int), .slice none 0 0, .slice none 0 0, .int .u32 0] 33)) := (Below.refl _ _).alloc (Nat.le_refl _) _
    have hB1 : B ≤ w1.heap.size := Nat.le_trans HB.out (by omega)
    exact ⟨hi.below hbw hB1, grown_trans (grown_trans (grown_below' p HW.out) hg) (grown_below' p hbw), (HV.out.grown hg HNv.out).alloc _, Blk.new w1 33 #[.int .u32 (n4 : Int), .slice none 0 0, .slice none 0 0, .int .u32 0], by omega, Nat.le_refl _, by omega, Nat.le_trans hB1 hbw.size⟩
  obtain ⟨tb, htb⟩ : ∃ n, n = w1.heap.size := ⟨_, rfl⟩
  generalize (w1.alloc (.cells #[.int .u32 (n4 : Int), .slice none 0 0, .slice none 0 0, .int .u32 0] 33)) = W1 at hPS ⊢
  rw [← htb] at hPS ⊢
  have HPS := Lib.hid hPS
  clear hPS K1 hi hg HV HNv htb HB HW
  have hmk := Hm.out
  go_upto_region 6 with (first
    | (go_at_call 37; go_loud ((with_reducible refine (K2.out _ HPS.out.rd HPS.out.hB).mono ?_); rintro e w2 ⟨v, rfl, ho, hi, hg⟩; obtain ⟨A, cap, rfl, hR, _⟩ := ho.rd; have hcv := conv_n (n := X.length) (c := cap) hR rfl; have HPS2 := Lib.hid (HPS.out.call hi hg); clear ho hi hg hR K2; dsimp only)))
  obtain ⟨HQ, hQe⟩ : ∃ h : Hid (PS w w2 B p w.heap.size tb [.int .u32 (n4 : Int), .slice none 0 0, .slice none 0 0, .int .u32 0] s1), h = HPS2 := ⟨_, rfl⟩
  clear hQe HPS2 hmk hcv HPS
  generalize w2 = W3 at HQ ⊢
  go_upto_region 7 with (go_at_call 39; (with_reducible refine (K3.out _ HQ.out.rd HQ.out.hB).mono ?_); rintro e w4 ⟨A1, k1, c1, ei, rfl, hr, hi, hg, hok⟩; have hq := HQ.out.call hi hg; have d0 := hq.tbb.cell (j := 1) rfl; have f0 := hq.tbb.free 1; have HQ4 := Lib.hid (hq.set 1 (.slice A1 k1 c1)); have HT4 := Lib.hid hq.tbb; have HS4 := Lib.hid (Nat.le_trans HQ.out.gr.size (Nat.le_refl W3.heap.size)); have Hr := Lib.hid hr; have Hok := Lib.hid hok; have HI4 := Lib.hid hi; have HG4 := Lib.hid hg; clear hr hi hg hok hq K3; dsimp only)
  have HZ : Hid (ri.1 = ei) := Hr
  obtain ⟨W4, hW4⟩ : ∃ W, W = w4.setCell ⟨tb, 1, none⟩ (.slice A1 k1 c1) := ⟨_, rfl⟩
  rw [← hW4] at HQ4 ⊢
  have HW4 := Lib.hid hW4
  clear hW4 d0 f0
  by_cases hc : ei = 0
  rotate_left
  · have hcb : (ei != 0) = true := by simpa using hc
    have cc0 := HQ4.out.tbb.cell (j := 0) rfl
    have cc1 := HQ4.out.tbb.cell (j := 1) rfl
    have cc2 := HQ4.out.tbb.cell (j := 2) rfl
    have cc3 := HQ4.out.tbb.cell (j := 3) rfl
    have d0 := HQ4.out.rvb.cell (j := 0) rfl
    have d1 := HQ4.out.rvb.cell (j := 1) rfl
    have d2 := HQ4.out.rvb.cell (j := 2) rfl
    have d3 := HQ4.out.rvb.cell (j := 3) rfl
    have f0 := HQ4.out.rvb.free 0
    have f1 := HQ4.out.rvb.free 1
    have f2 := HQ4.out.rvb.free 2
    have f3 := HQ4.out.rvb.free 3
    go_wp2_with fail
    generalize hW9 : (((W4.setCell ⟨w.heap.size, 0, none⟩ (.int .u32 (n4 : Int))).setCell ⟨w.heap.size, 1, none⟩ (.slice A1 k1 c1)).setCell ⟨w.heap.size, 2, none⟩ (.slice none 0 0)).setCell ⟨w.heap.size, 3, none⟩ (.int .u32 0) = W9
    obtain ⟨g1, g2, g3, g4⟩ := HQ4.out.fin hW9
    have hlv := run_loadVar_mid (P := Try.prog) W9 w.heap.size 0 33 _ _ g1.range Try.underlying33 rfl info26
    have ert := HRT.out
    rw [HZ.out, if_neg hc] at ert
    exact bodyPost_ret (v := .tuple #[.agg #[.int .u32 (n4 : Int), .slice A1 k1 c1, .slice none 0 0, .int .u32 0], .int .i64 ei]) (by simp [results, Try.results19, asAddr, hlv]) rfl ⟨_, _, _, _, _, _, _, _, _, rfl, by rw [ert], by rw [ert]; exact g2, g3, fun h => absurd h hc⟩
  subst hc
  obtain ⟨ib, vs, rfl, hn1, hcp, hIN, hbI, hib⟩ := Hok.out rfl
  subst c1
  have ht1 := HRT.out
  rw [HZ.out, if_pos rfl] at ht1
  have hR1 : Rd1 W4 ib ri.2.1 := by
    rw [HW4.out]
    exact Rd1.fr ⟨vs, hIN.w (fun x hx => (HI1.out x hx).2), hbI⟩ HI4.out HT4.out (by decide) (by decide) (by decide) (Fr.store _ _ _ _ _)
  have hib2 : w.heap.size ≤ ib := Nat.le_trans HS4.out hib
  clear hIN hbI hib HRT Hok HZ Hr HI4 HT4 HG4 HW4 HS4
  obtain ⟨xs, hxs⟩ : ∃ x, x = ri.2.1 := ⟨_, rfl⟩
  obtain ⟨s3, hs3⟩ : ∃ x, x = ri.2.2 := ⟨_, rfl⟩
  rw [← hxs] at HI1 HN3 hn1 ht1 hR1
  rw [← hs3] at HL3 HQ4 ht1
  clear hxs hs3
  have K5 : Hid (∀ wq, IsR wq B p s3 → B ≤ wq.heap.size → Calls Try.prog 40 #[.pointer q] wq (OutsOut (rOuts s3) B p wq)) := fun wq hq hBq => by rw [HP.out]; exact parsedOuts_any p s3 B wq hq hBq HL3.out
  have HO1 := Lib.hid (rOuts_ok s3)
  have HL5 := Lib.hid (rOuts_short HL3.out)
  have HN5 := Lib.hid (rOuts_len s3)
  have ht2 : rt = if (rOuts s3).1 = 0 then rT3 n4 false xs (rOuts s3).2.1 (rOuts s3).2.2 else ((rOuts s3).1, ⟨n4, xs, [], 0⟩, (rOuts s3).2.2) := ht1
  obtain ⟨ro, hro⟩ : ∃ r, r = rOuts s3 := ⟨_, rfl⟩
  rw [← hro] at K5 HO1 HL5 HN5 ht2
  have HRT := Lib.hid ht2
  have HR1 := Lib.hid hR1
  have HE1 := Lib.hid hn1
  have HIB := Lib.hid hib2
  have hcb : ((0 : Int) != 0) = false := by decide
  clear hro ht1 ht2 hR1 hn1 hib2 HL3
  go_upto_region 10 with (go_at_call 40; (with_reducible refine (K5.out _ HQ4.out.rd HQ4.out.hB).mono ?_); rintro e w5 ⟨A2, k2, c2, eo, rfl, hr, hi, hg, hok⟩; have hq := HQ4.out.call hi hg; have d0 := hq.tbb.cell (j := 2) rfl; have f0 := hq.tbb.free 2; have HQ5 := Lib.hid (hq.set 2 (.slice A2 k2 c2)); have HT5 := Lib.hid hq.tbb; have Hr := Lib.hid hr; have Hok := Lib.hid hok; have HI5 := Lib.hid hi; have HR5 := Lib.hid (Rd1.fr HR1.out HQ4.out.rd HQ4.out.tbb (by decide) (by decide) (by decide) (Fr.of_grown hg (some tb))); clear hr hi hg hok hq K5; dsimp only)
  have HZ : Hid (ro.1 = eo) := Hr
  obtain ⟨W5, hW5⟩ : ∃ W, W = w5.setCell ⟨tb, 2, none⟩ (.slice A2 k2 c2) := ⟨_, rfl⟩
  rw [← hW5] at HQ5 ⊢
  have HW5 := Lib.hid hW5
  clear hW5 d0 f0 hcb
  by_cases hc : eo = 0
  rotate_left
  · have hcb : (eo != 0) = true := by simpa using hc
    have cc0 := HQ5.out.tbb.cell (j := 0) rfl
    have cc1 := HQ5.out.tbb.cell (j := 1) rfl
    have cc2 := HQ5.out.tbb.cell (j := 2) rfl
    have cc3 := HQ5.out.tbb.cell (j := 3) rfl
    have d0 := HQ5.out.rvb.cell (j := 0) rfl
    have d1 := HQ5.out.rvb.cell (j := 1) rfl
    have d2 := HQ5.out.rvb.cell (j := 2) rfl
    have d3 := HQ5.out.rvb.cell (j := 3) rfl
    have f0 := HQ5.out.rvb.free 0
    have f1 := HQ5.out.rvb.free 1
    have f2 := HQ5.out.rvb.free 2
    have f3 := HQ5.out.rvb.free 3
    go_wp2_with fail
    generalize hW9 : (((W5.setCell ⟨w.heap.size, 0, none⟩ (.int .u32 (n4 : Int))).setCell ⟨w.heap.size, 1, none⟩ (.slice (some ⟨ib, 0, none⟩) k1 k1)).setCell ⟨w.heap.size, 2, none⟩ (.slice A2 k2 c2)).setCell ⟨w.heap.size, 3, none⟩ (.int .u32 0) = W9
    obtain ⟨g1, g2, g3, g4⟩ := HQ5.out.fin hW9
    have hlv := run_loadVar_mid (P := Try.prog) W9 w.heap.size 0 33 _ _ g1.range Try.underlying33 rfl info26
    have ert := HRT.out
    rw [HZ.out, if_neg hc] at ert
    exact bodyPost_ret (v := .tuple #[.agg #[.int .u32 (n4 : Int), .slice (some ⟨ib, 0, none⟩) k1 k1, .slice A2 k2 c2, .int .u32 0], .int .i64 eo]) (by simp [results, Try.results19, asAddr, hlv]) rfl ⟨_, _, _, _, _, _, _, _, _, rfl, by rw [ert], by rw [ert]; exact g2, g3, fun h => absurd h hc⟩
  subst hc
  obtain ⟨ob, us, rfl, hn2, hcp, hON, hbO, hob⟩ := Hok.out rfl
  subst c2
  have ht1 := HRT.out
  rw [HZ.out, if_pos rfl] at ht1
  have hR1 : Rd1 W5 ib xs := by
    rw [HW5.out]
    exact Rd1.fr HR5.out HI5.out HT5.out (by decide) (by decide) (by decide) (Fr.store _ _ _ _ _)
  have hR2 : Rd2 W5 ob ro.2.1 := by
    rw [HW5.out]
    exact Rd2.fr ⟨us, hON, hbO⟩ HI5.out HT5.out (by decide) (by decide) (Fr.store _ _ _ _ _)
  clear hON hbO hob HRT Hok HZ Hr HI5 HT5 HW5 HR5 HR1 HQ4
  obtain ⟨ys, hys⟩ : ∃ x, x = ro.2.1 := ⟨_, rfl⟩
  obtain ⟨s4, hs4⟩ : ∃ x, x = ro.2.2 := ⟨_, rfl⟩
  rw [← hys] at HO1 HN5 hn2 ht1 hR2
  rw [← hs4] at HL5 HQ5 ht1
  clear hys hs4
  have HR1 := Lib.hid hR1
  have HR2 := Lib.hid hR2
  have HE2 := Lib.hid hn2
  have HRT := Lib.hid ht1
  have hcb : ((0 : Int) != 0) = false := by decide
  have HE : Hid ([Value.int .u32 (n4 : Int), .slice (some ⟨ib, 0, none⟩) k1 k1, .slice (some ⟨ob, 0, none⟩) k2 k2, .int .u32 0] = (([Value.int .u32 (n4 : Int), .slice none 0 0, .slice none 0 0, .int .u32 0].set 1 (.slice (some ⟨ib, 0, none⟩) k1 k1)).set 2 (.slice (some ⟨ob, 0, none⟩) k2 k2))) := rfl
  rw [← HE.out] at HQ5
  clear HE hR1 hR2 hn2 ht1
  have KL : Hid (∀ wq, IsR wq B p s4 → B ≤ wq.heap.size → Calls Try.prog 36 #[.pointer q, .int .i64 4] wq (NumPost (numV s4 4) (numS s4 4) B p wq)) := fun wq hq hBq => by rw [HP.out]; exact num_any p s4 4 B wq hq hBq
  have h8 := numV_4 s4
  obtain ⟨n8, hn8⟩ : ∃ n, n = numV s4 4 := ⟨_, rfl⟩
  obtain ⟨s9, hs9⟩ : ∃ x, x = numS s4 4 := ⟨_, rfl⟩
  rw [← hn8] at KL h8
  rw [← hs9] at KL
  have HN8 := Lib.hid hn8
  have HS9 := Lib.hid hs9
  have H8 := Lib.hid h8
  have hw8 : IntKind.u32.wrap (n8 : Int) = (n8 : Int) := by rw [IntKind.wrap_u32]; omega
  clear hn8 hs9 h8
  go_upto_region 19 with (go_at_call 36; (with_reducible refine (KL.out _ HQ5.out.rd HQ5.out.hB).mono ?_); rintro e w8 ⟨rfl, hi, hg⟩; have hq := HQ5.out.call hi hg; have d0 := hq.tbb.cell (j := 3) rfl; have f0 := hq.tbb.free 3; have HQ8 := Lib.hid (hq.set 3 (.int .u32 (n8 : Int))); have HI8 := Lib.hid hi; have HT8 := Lib.hid hq.tbb; have HA8 := Lib.hid (Rd1.fr HR1.out HQ5.out.rd HQ5.out.tbb (by decide) (by decide) (by decide) (Fr.of_grown hg (some tb))); have HB8 := Lib.hid (Rd2.fr HR2.out HQ5.out.rd HQ5.out.tbb (by decide) (by decide) (Fr.of_grown hg (some tb))); clear hi hg hq KL; dsimp only)
  have hA9 := Rd1.fr HA8.out HI8.out HT8.out (by decide) (by decide) (by decide) (Fr.store w8 p tb 3 (.int .u32 (n8 : Int)))
  have hB9 := Rd2.fr HB8.out HI8.out HT8.out (by decide) (by decide) (Fr.store w8 p tb 3 (.int .u32 (n8 : Int)))
  clear HA8 HB8 HI8 HT8
  generalize w8.setCell ⟨tb, 3, none⟩ (.int .u32 (n8 : Int)) = W8 at HQ8 hA9 hB9 ⊢
  have HA9 := Lib.hid hA9
  have HB9 := Lib.hid hB9
  clear hA9 hB9 d0 f0
  have cc0 := HQ8.out.tbb.cell (j := 0) rfl
  have cc1 := HQ8.out.tbb.cell (j := 1) rfl
  have cc2 := HQ8.out.tbb.cell (j := 2) rfl
  have cc3 := HQ8.out.tbb.cell (j := 3) rfl
  have d0 := HQ8.out.rvb.cell (j := 0) rfl
  have d1 := HQ8.out.rvb.cell (j := 1) rfl
  have d2 := HQ8.out.rvb.cell (j := 2) rfl
  have d3 := HQ8.out.rvb.cell (j := 3) rfl
  have f0 := HQ8.out.rvb.free 0
  have f1 := HQ8.out.rvb.free 1
  have f2 := HQ8.out.rvb.free 2
  have f3 := HQ8.out.rvb.free 3
  go_wp2_with fail
  generalize hW9 : (((W8.setCell ⟨w.heap.size, 0, none⟩ (.int .u32 (n4 : Int))).setCell ⟨w.heap.size, 1, none⟩ (.slice (some ⟨ib, 0, none⟩) k1 k1)).setCell ⟨w.heap.size, 2, none⟩ (.slice (some ⟨ob, 0, none⟩) k2 k2)).setCell ⟨w.heap.size, 3, none⟩ (.int .u32 (n8 : Int)) = W9
  obtain ⟨g1, g2, g3, g4⟩ := HQ8.out.fin hW9
  have hlv := run_loadVar_mid (P := Try.prog) W9 w.heap.size 0 33 _ _ g1.range Try.underlying33 rfl info26
  have ert : rt = (0, ⟨n4, xs, ys, n8⟩, s9) := by rw [HN8.out, HS9.out]; exact HRT.out
  have hA := Rd1.fr HA9.out HQ8.out.rd HQ8.out.rvb (by decide) (by decide) (by decide) g4
  have hB := Rd2.fr HB9.out HQ8.out.rd HQ8.out.rvb (by decide) (by decide) g4
  have hTX : TxN W9 ⟨n4, xs, ys, n8⟩ (.slice (some ⟨ib, 0, none⟩) k1 k1) (.slice (some ⟨ob, 0, none⟩) k2 k2) := ⟨ib, ob, by rw [← HE1.out], by rw [← HE2.out], hA, hB, (fun x hx => ⟨(HI1.out x hx).1, by rw [(HI1.out x hx).2]; exact Nat.zero_le _⟩), HO1.out, HN3.out, HN5.out, H4.out, H8.out⟩
  exact bodyPost_ret (v := .tuple #[.agg #[.int .u32 (n4 : Int), .slice (some ⟨ib, 0, none⟩) k1 k1, .slice (some ⟨ob, 0, none⟩) k2 k2, .int .u32 (n8 : Int)], .int .i64 0]) (by simp [results, Try.results19, asAddr, hlv]) rfl ⟨_, _, _, _, _, _, _, _, _, rfl, by rw [ert], by rw [ert]; exact g2, g3, fun _ => by rw [ert]; exact ⟨rfl, rfl, hTX⟩⟩
set_option maxHeartbeats 4000000 in
theorem parsed_yes (p : Option Nat) (s : Option (List (BitVec 8))) (B : Nat) (w : World) (h : IsR w B p s) (hB : B ≤ w.heap.size) (hl : Short s 100000000) (hm : rM (numS s 4) = true) :
    Calls Try.prog 19 #[ptr p] w (ParsedPost (rT1 (numV s 4) true (cutS (numS s 4) 2)) B p w) := by
  obtain ⟨q, hP⟩ : ∃ q, Value.pointer q = ptr p := ⟨_, rfl⟩
  have hW : Below w.heap.size w (w.alloc (.cells #[.int .u32 0, .slice none 0 0, .slice none 0 0, .int .u32 0] 33)) := (Below.refl _ _).alloc (Nat.le_refl _) _
  have hA := h.below hW hB
  have hv := Blk.new w 33 #[.int .u32 0, .slice none 0 0, .slice none 0 0, .int .u32 0]
  have HV := Lib.hid hv
  have HB := Lib.hid hB
  have HW := Lib.hid hW
  have HNv := Lib.hid (hA.ne hv (by decide))
  obtain ⟨n4, hn4⟩ : ∃ n, n = numV s 4 := ⟨_, rfl⟩
  have h4 := numV_4 s
  have K1 := Lib.hid (num_any p s 4 B _ hA (Nat.le_trans hB hW.size))
  obtain ⟨s1, hs1⟩ : ∃ s', s' = numS s 4 := ⟨_, rfl⟩
  have hl1 : Short s1 100000000 := by rw [hs1]; exact numS_short hl _
  rw [← hn4] at K1 h4 ⊢
  rw [← hs1] at K1 hm ⊢
  have hw4 : IntKind.u32.wrap (n4 : Int) = (n4 : Int) := by rw [IntKind.wrap_u32]; omega
  have K2 : Hid (∀ wq, IsR wq B p s1 → B ≤ wq.heap.size → Calls Try.prog 37 #[.pointer q, .int .i64 2] wq (NewPost (takeL s1 2) s1 B p wq)) := fun wq hq hBq => by rw [hP]; exact peek_any p s1 2 B wq hq hBq hl1
  have K60 : Hid (∀ wq, IsR wq B p s1 → B ≤ wq.heap.size → Calls Try.prog 38 #[.pointer q, .int .i64 2] wq (NewPost (takeL s1 2) (cutS s1 2) B p wq)) := fun wq hq hBq => by rw [hP]; exact take_any p s1 2 B wq hq hBq hl1
  have hl2 : Short (cutS s1 2) 100000000 := cutS_short hl1 _
  obtain ⟨X, hX⟩ : ∃ X, X = takeL s1 2 := ⟨_, rfl⟩
  have hmk : ((strB X).toList == ([0, 1] : List UInt8)) = true := by rw [mark_beq, hX]; exact hm
  rw [← hX] at K2 K60
  obtain ⟨s2, hs2⟩ : ∃ s', s' = cutS s1 2 := ⟨_, rfl⟩
  rw [← hs2] at K60 hl2 ⊢
  have K3 : Hid (∀ wq, IsR wq B p s2 → B ≤ wq.heap.size → Calls Try.prog 39 #[.pointer q] wq (InsOut (rIns s2) B p wq)) := fun wq hq hBq => by rw [hP]; exact parsedIns_any p s2 B wq hq hBq hl2
  have HI1 := Lib.hid (rIns_ok s2)
  have HL3 := Lib.hid (rIns_short hl2)
  have HN3 := Lib.hid (rIns_len s2)
  have ht1 : rT1 n4 true s2 = if (rIns s2).1 = 0 then rT2 n4 true (rIns s2).2.1 (rIns s2).2.2 else ((rIns s2).1, ⟨n4, [], [], 0⟩, (rIns s2).2.2) := rfl
  obtain ⟨rt, hrt⟩ : ∃ r, r = rT1 n4 true s2 := ⟨_, rfl⟩
  rw [← hrt] at ht1 ⊢
  obtain ⟨ri, hri⟩ : ∃ r, r = rIns s2 := ⟨_, rfl⟩
  rw [← hri] at K3 HI1 HL3 HN3 ht1
  have HRT := Lib.hid ht1
  have H4 := Lib.hid h4
  rw [← hP] at K1 ⊢
  have HP := Lib.hid hP
  have Hm := Lib.hid hmk
  clear h hB hl hP hA hv hW hn4 hs1 hl1 hl2 hm hX hri ht1 hrt hmk hs2
  go_enter Try.func19, Try.ntmps19
  go_upto_region 2 with (go_at_call 36; (with_reducible refine K1.out.mono ?_); rintro e w1 ⟨rfl, hi, hg⟩; dsimp only)
  have hPS : PS w (w1.alloc (.cells #[.int .u32 (n4 : Int), .slice none 0 0, .slice none 0 0, .int .u32 0] 33)) B p w.heap.size w1.heap.size [.int .u32 (n4 : Int), .slice none 0 0, .slice none 0 0, .int .u32 0] s1 := by
    have hs1 : w.heap.size < w1.heap.size := Nat.lt_of_lt_of_le HV.out.lt hg.size
    have hbw : Below w1.heap.size w1 (w1.alloc (.cells #[.int .u32 (n4 : Int), .slice none 0 0, .slice none 0 0, .int .u32 0] 33)) := (Below.refl _ _).alloc (Nat.le_refl _) _
    have hB1 : B ≤ w1.heap.size := Nat.le_trans HB.out (by omega)
    exact ⟨hi.below hbw hB1, grown_trans (grown_trans (grown_below' p HW.out) hg) (grown_below' p hbw), (HV.out.grown hg HNv.out).alloc _, Blk.new w1 33 #[.int .u32 (n4 : Int), .slice none 0 0, .slice none 0 0, .int .u32 0], by omega, Nat.le_refl _, by omega, Nat.le_trans hB1 hbw.size⟩
  obtain ⟨tb, htb⟩ : ∃ n, n = w1.heap.size := ⟨_, rfl⟩
  generalize (w1.alloc (.cells #[.int .u32 (n4 : Int), .slice none 0 0, .slice none 0 0, .int .u32 0] 33)) = W1 at hPS ⊢
  rw [← htb] at hPS ⊢
  have HPS := Lib.hid hPS
  clear hPS K1 hi hg HV HNv htb HB HW
  have hmk := Hm.out
  go_upto_region 6 with (first
    | (go_at_call 37; go_loud ((with_reducible refine (K2.out _ HPS.out.rd HPS.out.hB).mono ?_); rintro e w2 ⟨v, rfl, ho, hi, hg⟩; obtain ⟨A, cap, rfl, hR, _⟩ := ho.rd; have hcv := conv_n (n := X.length) (c := cap) hR rfl; have HPS2 := Lib.hid (HPS.out.call hi hg); clear ho hi hg hR K2; dsimp only))
    | (go_at_call 38; (with_reducible refine (K60.out _ HPS2.out.rd HPS2.out.hB).mono ?_); rintro e w3 ⟨v, rfl, ho, hi, hg⟩; have HPS3 := Lib.hid (HPS2.out.call hi hg); clear ho hi hg K60; dsimp only))
  obtain ⟨HQ, hQe⟩ : ∃ h : Hid (PS w w3 B p w.heap.size tb [.int .u32 (n4 : Int), .slice none 0 0, .slice none 0 0, .int .u32 0] s2), h = HPS3 := ⟨_, rfl⟩
  clear hQe HPS3 HPS2 hmk hcv HPS
  generalize w3 = W3 at HQ ⊢
  go_upto_region 7 with (go_at_call 39; (with_reducible refine (K3.out _ HQ.out.rd HQ.out.hB).mono ?_); rintro e w4 ⟨A1, k1, c1, ei, rfl, hr, hi, hg, hok⟩; have hq := HQ.out.call hi hg; have d0 := hq.tbb.cell (j := 1) rfl; have f0 := hq.tbb.free 1; have HQ4 := Lib.hid (hq.set 1 (.slice A1 k1 c1)); have HT4 := Lib.hid hq.tbb; have HS4 := Lib.hid (Nat.le_trans HQ.out.gr.size (Nat.le_refl W3.heap.size)); have Hr := Lib.hid hr; have Hok := Lib.hid hok; have HI4 := Lib.hid hi; have HG4 := Lib.hid hg; clear hr hi hg hok hq K3; dsimp only)
  have HZ : Hid (ri.1 = ei) := Hr
  obtain ⟨W4, hW4⟩ : ∃ W, W = w4.setCell ⟨tb, 1, none⟩ (.slice A1 k1 c1) := ⟨_, rfl⟩
  rw [← hW4] at HQ4 ⊢
  have HW4 := Lib.hid hW4
  clear hW4 d0 f0
  by_cases hc : ei = 0
  rotate_left
  · have hcb : (ei != 0) = true := by simpa using hc
    have cc0 := HQ4.out.tbb.cell (j := 0) rfl
    have cc1 := HQ4.out.tbb.cell (j := 1) rfl
    have cc2 := HQ4.out.tbb.cell (j := 2) rfl
    have cc3 := HQ4.out.tbb.cell (j := 3) rfl
    have d0 := HQ4.out.rvb.cell (j := 0) rfl
    have d1 := HQ4.out.rvb.cell (j := 1) rfl
    have d2 := HQ4.out.rvb.cell (j := 2) rfl
    have d3 := HQ4.out.rvb.cell (j := 3) rfl
    have f0 := HQ4.out.rvb.free 0
    have f1 := HQ4.out.rvb.free 1
    have f2 := HQ4.out.rvb.free 2
    have f3 := HQ4.out.rvb.free 3
    go_wp2_with fail
    generalize hW9 : (((W4.setCell ⟨w.heap.size, 0, none⟩ (.int .u32 (n4 : Int))).setCell ⟨w.heap.size, 1, none⟩ (.slice A1 k1 c1)).setCell ⟨w.heap.size, 2, none⟩ (.slice none 0 0)).setCell ⟨w.heap.size, 3, none⟩ (.int .u32 0) = W9
    obtain ⟨g1, g2, g3, g4⟩ := HQ4.out.fin hW9
    have hlv := run_loadVar_mid (P := Try.prog) W9 w.heap.size 0 33 _ _ g1.range Try.underlying33 rfl info26
    have ert := HRT.out
    rw [HZ.out, if_neg hc] at ert
    exact bodyPost_ret (v := .tuple #[.agg #[.int .u32 (n4 : Int), .slice A1 k1 c1, .slice none 0 0, .int .u32 0], .int .i64 ei]) (by simp [results, Try.results19, asAddr, hlv]) rfl ⟨_, _, _, _, _, _, _, _, _, rfl, by rw [ert], by rw [ert]; exact g2, g3, fun h => absurd h hc⟩
  subst hc
  obtain ⟨ib, vs, rfl, hn1, hcp, hIN, hbI, hib⟩ := Hok.out rfl
  subst c1
  have ht1 := HRT.out
  rw [HZ.out, if_pos rfl] at ht1
  have hR1 : Rd1 W4 ib ri.2.1 := by
    rw [HW4.out]
    exact Rd1.fr ⟨vs, hIN.w (fun x hx => (HI1.out x hx).2), hbI⟩ HI4.out HT4.out (by decide) (by decide) (by decide) (Fr.store _ _ _ _ _)
  have hib2 : w.heap.size ≤ ib := Nat.le_trans HS4.out hib
  clear hIN hbI hib HRT Hok HZ Hr HI4 HT4 HG4 HW4 HS4
  obtain ⟨xs, hxs⟩ : ∃ x, x = ri.2.1 := ⟨_, rfl⟩
  obtain ⟨s3, hs3⟩ : ∃ x, x = ri.2.2 := ⟨_, rfl⟩
  rw [← hxs] at HI1 HN3 hn1 ht1 hR1
  rw [← hs3] at HL3 HQ4 ht1
  clear hxs hs3
  have K5 : Hid (∀ wq, IsR wq B p s3 → B ≤ wq.heap.size → Calls Try.prog 40 #[.pointer q] wq (OutsOut (rOuts s3) B p wq)) := fun wq hq hBq => by rw [HP.out]; exact parsedOuts_any p s3 B wq hq hBq HL3.out
  have HO1 := Lib.hid (rOuts_ok s3)
  have HL5 := Lib.hid (rOuts_short HL3.out)
  have HN5 := Lib.hid (rOuts_len s3)
  have ht2 : rt = if (rOuts s3).1 = 0 then rT3 n4 true xs (rOuts s3).2.1 (rOuts s3).2.2 else ((rOuts s3).1, ⟨n4, xs, [], 0⟩, (rOuts s3).2.2) := ht1
  obtain ⟨ro, hro⟩ : ∃ r, r = rOuts s3 := ⟨_, rfl⟩
  rw [← hro] at K5 HO1 HL5 HN5 ht2
  have HRT := Lib.hid ht2
  have HR1 := Lib.hid hR1
  have HE1 := Lib.hid hn1
  have HIB := Lib.hid hib2
  have hcb : ((0 : Int) != 0) = false := by decide
  clear hro ht1 ht2 hR1 hn1 hib2 HL3
  go_upto_region 10 with (go_at_call 40; (with_reducible refine (K5.out _ HQ4.out.rd HQ4.out.hB).mono ?_); rintro e w5 ⟨A2, k2, c2, eo, rfl, hr, hi, hg, hok⟩; have hq := HQ4.out.call hi hg; have d0 := hq.tbb.cell (j := 2) rfl; have f0 := hq.tbb.free 2; have HQ5 := Lib.hid (hq.set 2 (.slice A2 k2 c2)); have HT5 := Lib.hid hq.tbb; have Hr := Lib.hid hr; have Hok := Lib.hid hok; have HI5 := Lib.hid hi; have HR5 := Lib.hid (Rd1.fr HR1.out HQ4.out.rd HQ4.out.tbb (by decide) (by decide) (by decide) (Fr.of_grown hg (some tb))); clear hr hi hg hok hq K5; dsimp only)
  have HZ : Hid (ro.1 = eo) := Hr
  obtain ⟨W5, hW5⟩ : ∃ W, W = w5.setCell ⟨tb, 2, none⟩ (.slice A2 k2 c2) := ⟨_, rfl⟩
  rw [← hW5] at HQ5 ⊢
  have HW5 := Lib.hid hW5
  clear hW5 d0 f0 hcb
  by_cases hc : eo = 0
  rotate_left
  · have hcb : (eo != 0) = true := by simpa using hc
    have cc0 := HQ5.out.tbb.cell (j := 0) rfl
    have cc1 := HQ5.out.tbb.cell (j := 1) rfl
    have cc2 := HQ5.out.tbb.cell (j := 2) rfl
    have cc3 := HQ5.out.tbb.cell (j := 3) rfl
    have d0 := HQ5.out.rvb.cell (j := 0) rfl
    have d1 := HQ5.out.rvb.cell (j := 1) rfl
    have d2 := HQ5.out.rvb.cell (j := 2) rfl
    have d3 := HQ5.out.rvb.cell (j := 3) rfl
    have f0 := HQ5.out.rvb.free 0
    have f1 := HQ5.out.rvb.free 1
    have f2 := HQ5.out.rvb.free 2
    have f3 := HQ5.out.rvb.free 3
    go_wp2_with fail
    generalize hW9 : (((W5.setCell ⟨w.heap.size, 0, none⟩ (.int .u32 (n4 : Int))).setCell ⟨w.heap.size, 1, none⟩ (.slice (some ⟨ib, 0, none⟩) k1 k1)).setCell ⟨w.heap.size, 2, none⟩ (.slice A2 k2 c2)).setCell ⟨w.heap.size, 3, none⟩ (.int .u32 0) = W9
    obtain ⟨g1, g2, g3, g4⟩ := HQ5.out.fin hW9
    have hlv := run_loadVar_mid (P := Try.prog) W9 w.heap.size 0 33 _ _ g1.range Try.underlying33 rfl info26
    have ert := HRT.out
    rw [HZ.out, if_neg hc] at ert
    exact bodyPost_ret (v := .tuple #[.agg #[.int .u32 (n4 : Int), .slice (some ⟨ib, 0, none⟩) k1 k1, .slice A2 k2 c2, .int .u32 0], .int .i64 eo]) (by simp [results, Try.results19, asAddr, hlv]) rfl ⟨_, _, _, _, _, _, _, _, _, rfl, by rw [ert], by rw [ert]; exact g2, g3, fun h => absurd h hc⟩
  subst hc
  obtain ⟨ob, us, rfl, hn2, hcp, hON, hbO, hob⟩ := Hok.out rfl
  subst c2
  have ht1 := HRT.out
  rw [HZ.out, if_pos rfl] at ht1
  have hR1 : Rd1 W5 ib xs := by
    rw [HW5.out]
    exact Rd1.fr HR5.out HI5.out HT5.out (by decide) (by decide) (by decide) (Fr.store _ _ _ _ _)
  have hR2 : Rd2 W5 ob ro.2.1 := by
    rw [HW5.out]
    exact Rd2.fr ⟨us, hON, hbO⟩ HI5.out HT5.out (by decide) (by decide) (Fr.store _ _ _ _ _)
  clear hON hbO hob HRT Hok HZ Hr HI5 HT5 HW5 HR5 HR1 HQ4
  obtain ⟨ys, hys⟩ : ∃ x, x = ro.2.1 := ⟨_, rfl⟩
  obtain ⟨s4, hs4⟩ : ∃ x, x = ro.2.2 := ⟨_, rfl⟩
  rw [← hys] at HO1 HN5 hn2 ht1 hR2
  rw [← hs4] at HL5 HQ5 ht1
  clear hys hs4
  have HR1 := Lib.hid hR1
  have HR2 := Lib.hid hR2
  have HE2 := Lib.hid hn2
  have HRT := Lib.hid ht1
  have hcb : ((0 : Int) != 0) = false := by decide
  have HE : Hid ([Value.int .u32 (n4 : Int), .slice (some ⟨ib, 0, none⟩) k1 k1, .slice (some ⟨ob, 0, none⟩) k2 k2, .int .u32 0] = (([Value.int .u32 (n4 : Int), .slice none 0 0, .slice none 0 0, .int .u32 0].set 1 (.slice (some ⟨ib, 0, none⟩) k1 k1)).set 2 (.slice (some ⟨ob, 0, none⟩) k2 k2))) := rfl
  rw [← HE.out] at HQ5
  clear HE hR1 hR2 hn2 ht1
  have cc1 := HQ5.out.tbb.cell (j := 1) rfl
  have K6 : Hid (Calls Try.prog 41 #[.pointer q, .slice (some ⟨ib, 0, none⟩) k1 k1] W5 (StepPost (XPost (rX k1 s4) xs B ib p W5) (ErrPost (rX k1 s4).1 (rX k1 s4).2.2 B p (some ib) W5))) := by
    obtain ⟨vs, h1, h2⟩ := HR1.out
    rw [HP.out]
    exact parseWits_any p s4 B ib k1 k1 xs vs W5 HQ5.out.rd HQ5.out.hB HL5.out h2 h1 HE1.out (by have := HN3.out; have := HE1.out; omega) (fun x hx => (HI1.out x hx).1.1)
  have HX1 := Lib.hid (rX_n k1 s4)
  have ht3 : rt = if (rX xs.length s4).1 = 0 then rT4 n4 true (wW xs (rX xs.length s4).2.1) ys (rX xs.length s4).2.2 else ((rX xs.length s4).1, ⟨n4, xs, ys, 0⟩, (rX xs.length s4).2.2) := HRT.out
  rw [HE1.out] at ht3
  have HL6 := Lib.hid (rX_short k1 s4 HL5.out)
  obtain ⟨rx, hrx⟩ : ∃ r, r = rX k1 s4 := ⟨_, rfl⟩
  rw [← hrx] at K6 HX1 ht3 HL6
  clear HRT hrx HL5
  have HRT := Lib.hid ht3
  clear ht3
  go_upto_region 14 with (go_at_call 41; (with_reducible refine K6.out.mono ?_); rintro e w6 ⟨ew, rfl, h0, h1⟩; have H0 := Lib.hid h0; have H1 := Lib.hid h1; clear h0 h1 K6 cc1; dsimp only)
  clear hcb
  by_cases hc : ew = 0
  rotate_left
  · obtain ⟨hz, hi, hf⟩ := H1.out hc
    have HZ := Lib.hid hz
    have HQ6 : Hid (PS w w6 B p w.heap.size tb [.int .u32 (n4 : Int), .slice (some ⟨ib, 0, none⟩) k1 k1, .slice (some ⟨ob, 0, none⟩) k2 k2, .int .u32 0] rx.2.2) := by
      obtain ⟨vs, h1, h2⟩ := HR1.out
      exact HQ5.out.fr hi hf h2 HIB.out
    have hcb : (ew != 0) = true := by simpa using hc
    clear hi hf hz H0 H1
    have cc0 := HQ6.out.tbb.cell (j := 0) rfl
    have cc1 := HQ6.out.tbb.cell (j := 1) rfl
    have cc2 := HQ6.out.tbb.cell (j := 2) rfl
    have cc3 := HQ6.out.tbb.cell (j := 3) rfl
    have d0 := HQ6.out.rvb.cell (j := 0) rfl
    have d1 := HQ6.out.rvb.cell (j := 1) rfl
    have d2 := HQ6.out.rvb.cell (j := 2) rfl
    have d3 := HQ6.out.rvb.cell (j := 3) rfl
    have f0 := HQ6.out.rvb.free 0
    have f1 := HQ6.out.rvb.free 1
    have f2 := HQ6.out.rvb.free 2
    have f3 := HQ6.out.rvb.free 3
    go_wp2_with fail
    generalize hW9 : (((w6.setCell ⟨w.heap.size, 0, none⟩ (.int .u32 (n4 : Int))).setCell ⟨w.heap.size, 1, none⟩ (.slice (some ⟨ib, 0, none⟩) k1 k1)).setCell ⟨w.heap.size, 2, none⟩ (.slice (some ⟨ob, 0, none⟩) k2 k2)).setCell ⟨w.heap.size, 3, none⟩ (.int .u32 0) = W9
    obtain ⟨g1, g2, g3, g4⟩ := HQ6.out.fin hW9
    have hlv := run_loadVar_mid (P := Try.prog) W9 w.heap.size 0 33 _ _ g1.range Try.underlying33 rfl info26
    have ert := HRT.out
    rw [HZ.out, if_neg hc] at ert
    exact bodyPost_ret (v := .tuple #[.agg #[.int .u32 (n4 : Int), .slice (some ⟨ib, 0, none⟩) k1 k1, .slice (some ⟨ob, 0, none⟩) k2 k2, .int .u32 0], .int .i64 ew]) (by simp [results, Try.results19, asAddr, hlv]) rfl ⟨_, _, _, _, _, _, _, _, _, rfl, by rw [ert], by rw [ert]; exact g2, g3, fun h => absurd h hc⟩
  subst hc
  obtain ⟨hz, hlx, vs6, hx6, hb6, hi6, hf6⟩ := H0.out rfl
  have HQ6 : Hid (PS w w6 B p w.heap.size tb [.int .u32 (n4 : Int), .slice (some ⟨ib, 0, none⟩) k1 k1, .slice (some ⟨ob, 0, none⟩) k2 k2, .int .u32 0] rx.2.2) := by
    obtain ⟨vs, h1, h2⟩ := HR1.out
    exact HQ5.out.fr hi6 hf6 h2 HIB.out
  have hR2 : Rd2 w6 ob ys := by
    obtain ⟨vs, h1, h2⟩ := HR1.out
    exact Rd2.fr HR2.out HQ5.out.rd h2 (by decide) (by decide) hf6
  have hR1 : Rd1 w6 ib (wW xs rx.2.1) := ⟨vs6, hx6, hb6⟩
  have hE1 : (wW xs rx.2.1).length = k1 := by rw [wW_len, hlx, Nat.min_self]; exact HE1.out
  have hOk : ∀ x ∈ wW xs rx.2.1, OkIn x ∧ x.wt.length ≤ 1000000 := fun x hx => ⟨wW_ok xs _ (fun y hy => (HI1.out y hy).1) x hx, Nat.le_trans (wW_wt xs _ 8 HX1.out x hx) (by decide)⟩
  have ht3 := HRT.out
  rw [hz, if_pos rfl] at ht3
  have hk : k1 ≤ 16 := by have := HN3.out; have := HE1.out; omega
  clear HRT HR1 HR2 HI1 HN3 HE1 H0 H1 hx6 hb6 hi6 hf6 hlx HX1 hz HQ5
  obtain ⟨xw, hxw⟩ : ∃ x, x = wW xs rx.2.1 := ⟨_, rfl⟩
  obtain ⟨s6, hs6⟩ : ∃ x, x = rx.2.2 := ⟨_, rfl⟩
  rw [← hxw] at hR1 hE1 hOk ht3
  rw [← hs6] at HQ6 HL6 ht3
  clear hxw hs6
  have hTX := Rd1.tx (l := 0) hR1 hR2 hOk HO1.out hE1 HE2.out hk (by rw [← HE2.out]; exact HN5.out) H4.out (by decide)
  have K14 : Hid (Calls Try.prog 35 #[.agg #[.int .u32 (n4 : Int), .slice (some ⟨ib, 0, none⟩) k1 k1, .slice (some ⟨ob, 0, none⟩) k2 k2, .int .u32 0]] w6 (BoolPost (witd ⟨n4, xw, ys, 0⟩) w6)) := witnessed_any _ _ _ w6 hTX
  have HN3 : Hid (xw.length ≤ 16) := by rw [hE1]; exact hk
  have HR1 := Lib.hid hR1
  have HR2 := Lib.hid hR2
  have HE1 := Lib.hid hE1
  have HOk := Lib.hid hOk
  have ht4 : rt = if True ∧ witd ⟨n4, xw, ys, 0⟩ = false then (4, ⟨n4, xw, ys, 0⟩, s6) else (0, ⟨n4, xw, ys, numV s6 4⟩, numS s6 4) := by rw [ht3]; unfold rT4; simp
  clear hR1 hR2 hE1 hOk hTX hk ht3
  have hcb : ((0 : Int) != 0) = false := by decide
  have cc0 := HQ6.out.tbb.cell (j := 0) rfl
  have cc1 := HQ6.out.tbb.cell (j := 1) rfl
  have cc2 := HQ6.out.tbb.cell (j := 2) rfl
  have cc3 := HQ6.out.tbb.cell (j := 3) rfl
  have d0 := HQ6.out.rvb.cell (j := 0) rfl
  have d1 := HQ6.out.rvb.cell (j := 1) rfl
  have d2 := HQ6.out.rvb.cell (j := 2) rfl
  have d3 := HQ6.out.rvb.cell (j := 3) rfl
  have f0 := HQ6.out.rvb.free 0
  have f1 := HQ6.out.rvb.free 1
  have f2 := HQ6.out.rvb.free 2
  have f3 := HQ6.out.rvb.free 3
  cases hwd : witd ⟨n4, xw, ys, 0⟩
  · rw [hwd] at K14 ht4
    have HRT := Lib.hid ht4
    clear ht4 hwd
    go_upto_region 17 with (go_at_call 35; (with_reducible refine K14.out.mono ?_); rintro e w7 ⟨rfl, hb⟩; have HQ7 := Lib.hid (HQ6.out.same hb); clear hb K14; dsimp only)
    clear cc0 cc1 cc2 cc3 d0 d1 d2 d3 f0 f1 f2 f3
    have cc0 := HQ7.out.tbb.cell (j := 0) rfl
    have cc1 := HQ7.out.tbb.cell (j := 1) rfl
    have cc2 := HQ7.out.tbb.cell (j := 2) rfl
    have cc3 := HQ7.out.tbb.cell (j := 3) rfl
    have d0 := HQ7.out.rvb.cell (j := 0) rfl
    have d1 := HQ7.out.rvb.cell (j := 1) rfl
    have d2 := HQ7.out.rvb.cell (j := 2) rfl
    have d3 := HQ7.out.rvb.cell (j := 3) rfl
    have f0 := HQ7.out.rvb.free 0
    have f1 := HQ7.out.rvb.free 1
    have f2 := HQ7.out.rvb.free 2
    have f3 := HQ7.out.rvb.free 3
    go_wp2_with fail
    generalize hW9 : (((w7.setCell ⟨w.heap.size, 0, none⟩ (.int .u32 (n4 : Int))).setCell ⟨w.heap.size, 1, none⟩ (.slice (some ⟨ib, 0, none⟩) k1 k1)).setCell ⟨w.heap.size, 2, none⟩ (.slice (some ⟨ob, 0, none⟩) k2 k2)).setCell ⟨w.heap.size, 3, none⟩ (.int .u32 0) = W9
    obtain ⟨g1, g2, g3, g4⟩ := HQ7.out.fin hW9
    have hlv := run_loadVar_mid (P := Try.prog) W9 w.heap.size 0 33 _ _ g1.range Try.underlying33 rfl info26
    have ert := HRT.out
    rw [if_pos (by simp)] at ert
    exact bodyPost_ret (v := .tuple #[.agg #[.int .u32 (n4 : Int), .slice (some ⟨ib, 0, none⟩) k1 k1, .slice (some ⟨ob, 0, none⟩) k2 k2, .int .u32 0], .int .i64 4]) (by simp [results, Try.results19, asAddr, hlv]) rfl ⟨_, _, _, _, _, _, _, _, _, rfl, by rw [ert], by rw [ert]; exact g2, g3, fun h => absurd h (by decide)⟩
  rw [hwd] at K14 ht4
  rw [if_neg (by simp)] at ht4
  have HRT := Lib.hid ht4
  clear ht4 hwd
  go_upto_region 18 with (go_at_call 35; (with_reducible refine K14.out.mono ?_); rintro e w7 ⟨rfl, hb⟩; have HQ7 := Lib.hid (HQ6.out.same hb); have hF7 : Fr w6 w7 p (some tb) := Fr.of_grown ⟨hb.os, hb.tape, hb.output, hb.size, fun k hk _ => hb.block k hk⟩ _; have HA7 := Lib.hid (Rd1.fr HR1.out HQ6.out.rd HQ6.out.tbb (by decide) (by decide) (by decide) hF7); have HB7 := Lib.hid (Rd2.fr HR2.out HQ6.out.rd HQ6.out.tbb (by decide) (by decide) hF7); clear hb hF7 K14 HR1 HR2; dsimp only)
  clear cc0 cc1 cc2 cc3 d0 d1 d2 d3 f0 f1 f2 f3 hcb HQ6
  have HR1 := HA7
  have HR2 := HB7
  clear HA7 HB7
  have KL : Hid (∀ wq, IsR wq B p s6 → B ≤ wq.heap.size → Calls Try.prog 36 #[.pointer q, .int .i64 4] wq (NumPost (numV s6 4) (numS s6 4) B p wq)) := fun wq hq hBq => by rw [HP.out]; exact num_any p s6 4 B wq hq hBq
  have h8 := numV_4 s6
  obtain ⟨n8, hn8⟩ : ∃ n, n = numV s6 4 := ⟨_, rfl⟩
  obtain ⟨s9, hs9⟩ : ∃ x, x = numS s6 4 := ⟨_, rfl⟩
  rw [← hn8] at KL h8
  rw [← hs9] at KL
  have HN8 := Lib.hid hn8
  have HS9 := Lib.hid hs9
  have H8 := Lib.hid h8
  have hw8 : IntKind.u32.wrap (n8 : Int) = (n8 : Int) := by rw [IntKind.wrap_u32]; omega
  clear hn8 hs9 h8
  go_upto_region 19 with (go_at_call 36; (with_reducible refine (KL.out _ HQ7.out.rd HQ7.out.hB).mono ?_); rintro e w8 ⟨rfl, hi, hg⟩; have hq := HQ7.out.call hi hg; have d0 := hq.tbb.cell (j := 3) rfl; have f0 := hq.tbb.free 3; have HQ8 := Lib.hid (hq.set 3 (.int .u32 (n8 : Int))); have HI8 := Lib.hid hi; have HT8 := Lib.hid hq.tbb; have HA8 := Lib.hid (Rd1.fr HR1.out HQ7.out.rd HQ7.out.tbb (by decide) (by decide) (by decide) (Fr.of_grown hg (some tb))); have HB8 := Lib.hid (Rd2.fr HR2.out HQ7.out.rd HQ7.out.tbb (by decide) (by decide) (Fr.of_grown hg (some tb))); clear hi hg hq KL; dsimp only)
  have hA9 := Rd1.fr HA8.out HI8.out HT8.out (by decide) (by decide) (by decide) (Fr.store w8 p tb 3 (.int .u32 (n8 : Int)))
  have hB9 := Rd2.fr HB8.out HI8.out HT8.out (by decide) (by decide) (Fr.store w8 p tb 3 (.int .u32 (n8 : Int)))
  clear HA8 HB8 HI8 HT8
  generalize w8.setCell ⟨tb, 3, none⟩ (.int .u32 (n8 : Int)) = W8 at HQ8 hA9 hB9 ⊢
  have HA9 := Lib.hid hA9
  have HB9 := Lib.hid hB9
  clear hA9 hB9 d0 f0
  have cc0 := HQ8.out.tbb.cell (j := 0) rfl
  have cc1 := HQ8.out.tbb.cell (j := 1) rfl
  have cc2 := HQ8.out.tbb.cell (j := 2) rfl
  have cc3 := HQ8.out.tbb.cell (j := 3) rfl
  have d0 := HQ8.out.rvb.cell (j := 0) rfl
  have d1 := HQ8.out.rvb.cell (j := 1) rfl
  have d2 := HQ8.out.rvb.cell (j := 2) rfl
  have d3 := HQ8.out.rvb.cell (j := 3) rfl
  have f0 := HQ8.out.rvb.free 0
  have f1 := HQ8.out.rvb.free 1
  have f2 := HQ8.out.rvb.free 2
  have f3 := HQ8.out.rvb.free 3
  go_wp2_with fail
  generalize hW9 : (((W8.setCell ⟨w.heap.size, 0, none⟩ (.int .u32 (n4 : Int))).setCell ⟨w.heap.size, 1, none⟩ (.slice (some ⟨ib, 0, none⟩) k1 k1)).setCell ⟨w.heap.size, 2, none⟩ (.slice (some ⟨ob, 0, none⟩) k2 k2)).setCell ⟨w.heap.size, 3, none⟩ (.int .u32 (n8 : Int)) = W9
  obtain ⟨g1, g2, g3, g4⟩ := HQ8.out.fin hW9
  have hlv := run_loadVar_mid (P := Try.prog) W9 w.heap.size 0 33 _ _ g1.range Try.underlying33 rfl info26
  have ert : rt = (0, ⟨n4, xw, ys, n8⟩, s9) := by rw [HN8.out, HS9.out]; exact HRT.out
  have hA := Rd1.fr HA9.out HQ8.out.rd HQ8.out.rvb (by decide) (by decide) (by decide) g4
  have hB := Rd2.fr HB9.out HQ8.out.rd HQ8.out.rvb (by decide) (by decide) g4
  have hTX : TxN W9 ⟨n4, xw, ys, n8⟩ (.slice (some ⟨ib, 0, none⟩) k1 k1) (.slice (some ⟨ob, 0, none⟩) k2 k2) := ⟨ib, ob, by rw [← HE1.out], by rw [← HE2.out], hA, hB, HOk.out, HO1.out, HN3.out, HN5.out, H4.out, H8.out⟩
  exact bodyPost_ret (v := .tuple #[.agg #[.int .u32 (n4 : Int), .slice (some ⟨ib, 0, none⟩) k1 k1, .slice (some ⟨ob, 0, none⟩) k2 k2, .int .u32 (n8 : Int)], .int .i64 0]) (by simp [results, Try.results19, asAddr, hlv]) rfl ⟨_, _, _, _, _, _, _, _, _, rfl, by rw [ert], by rw [ert]; exact g2, g3, fun _ => by rw [ert]; exact ⟨rfl, rfl, hTX⟩⟩
theorem parsed_any (p : Option Nat) (s : Option (List (BitVec 8))) (B : Nat) (w : World) (h : IsR w B p s) (hB : B ≤ w.heap.size) (hl : Short s 100000000) :
    Calls Try.prog 19 #[ptr p] w (ParsedPost (rT s) B p w) := by
  unfold rT
  cases hm : rM (numS s 4)
  · exact parsed_no p s B w h hB hl hm
  · exact parsed_yes p s B w h hB hl hm
open Go.RowKit
set_option linter.unusedVariables false
set_option linter.unusedSimpArgs false
set_option maxRecDepth 100000
def tx00 : TTx := ⟨0, [], [], 0⟩
theorem tx00_ok (w : World) (B : Nat) : TxOk w B tx00 (.slice none 0 0) (.slice none 0 0) :=
  ⟨⟨none, 0, rfl, Nat.le_refl _, by omega, fun h => by simp [tx00] at h⟩, ⟨none, 0, rfl, Nat.le_refl _, by omega, fun h => by simp [tx00] at h⟩, by decide, by decide⟩
def ParsePost (r : Int × TTx × Option (List (BitVec 8))) (B : Nat) (p : Option Nat) (w : World) (e : Ending) (w' : World) : Prop :=
  ∃ i o, e = .returned (.tuple #[txV r.2.1 i o, .int .i64 r.1]) ∧ (r.1 = 0 → TxN w' r.2.1 i o) ∧ (r.1 ≠ 0 → r.2.1 = tx00 ∧ i = .slice none 0 0 ∧ o = .slice none 0 0) ∧ IsR w' B p r.2.2 ∧ w.grownBy w' p
theorem ParsePost.ok {r : Int × TTx × Option (List (BitVec 8))} {B : Nat} {p : Option Nat} {w : World} {e : Ending} {w' : World} (h : ParsePost r B p w e w') : ∃ i o, e = .returned (.tuple #[txV r.2.1 i o, .int .i64 r.1]) ∧ TxOk w' w'.heap.size r.2.1 i o ∧ IsR w' B p r.2.2 ∧ w.grownBy w' p := by
  obtain ⟨i, o, e, h1, h2, h3, h4⟩ := h
  refine ⟨i, o, e, ?_, h3, h4⟩
  by_cases hc : r.1 = 0
  · exact (h1 hc).ok
  · obtain ⟨e1, e2, e3⟩ := h2 hc
    rw [e1, e2, e3]; exact tx00_ok _ _
set_option maxHeartbeats 4000000 in
theorem parse_any (p : Option Nat) (s : Option (List (BitVec 8))) (B : Nat) (w : World) (h : IsR w B p s) (hB : B ≤ w.heap.size) (hl : Short s 100000000) :
    Calls Try.prog 8 #[ptr p] w (ParsePost (rP s) B p w) := by
  obtain ⟨q, hP⟩ : ∃ q, Value.pointer q = ptr p := ⟨_, rfl⟩
  have hW : Below w.heap.size w (w.alloc (.cells #[.int .u32 0, .slice none 0 0, .slice none 0 0, .int .u32 0] 33)) := (Below.refl _ _).alloc (Nat.le_refl _) _
  have hA := h.below hW hB
  have hv := Blk.new w 33 #[.int .u32 0, .slice none 0 0, .slice none 0 0, .int .u32 0]
  have HV := Lib.hid hv
  have HB := Lib.hid hB
  have HW := Lib.hid hW
  have HNv := Lib.hid (hA.ne hv (by decide))
  have K1 := Lib.hid (parsed_any p s B _ hA (Nat.le_trans hB hW.size) hl)
  have KT : Hid (∀ (s' : Option (List (BitVec 8))) (wq : World), IsR wq B p s' → Calls Try.prog 20 #[.pointer q] wq fun e w' => e = .returned (.bool s'.isNone) ∧ wq = w') := fun s' wq hq => by rw [hP]; exact torn_any p s' B wq hq
  obtain ⟨rp, hrp⟩ : ∃ r, r = rP s := ⟨_, rfl⟩
  have hpe : rP s = if (rT s).1 = 0 ∧ (rT s).2.2.isNone = true then (4, ⟨0, [], [], 0⟩, (rT s).2.2) else if (rT s).1 = 0 then rT s else ((rT s).1, ⟨0, [], [], 0⟩, (rT s).2.2) := rfl
  rw [← hrp] at hpe ⊢
  obtain ⟨rt, hrt⟩ : ∃ r, r = rT s := ⟨_, rfl⟩
  rw [← hrt] at K1 hpe
  have HRP := Lib.hid hpe
  rw [← hP] at K1 ⊢
  clear h hB hl hP hA hv hW hrp hpe hrt
  go_enter Try.func8, Try.ntmps8
  go_upto_region 2 with (go_at_call 19; (with_reducible refine K1.out.mono ?_); rintro e w1 ⟨V, L, A1, n1, c1, A2, n2, c2, c, rfl, hr, hi, hg, hok⟩; dsimp only)
  have hPS : PS w (w1.alloc (.cells #[.int .u32 V, .slice A1 n1 c1, .slice A2 n2 c2, .int .u32 L] 33)) B p w.heap.size w1.heap.size [.int .u32 V, .slice A1 n1 c1, .slice A2 n2 c2, .int .u32 L] rt.2.2 := by
    have hs1 : w.heap.size < w1.heap.size := Nat.lt_of_lt_of_le HV.out.lt hg.size
    have hbw : Below w1.heap.size w1 (w1.alloc (.cells #[.int .u32 V, .slice A1 n1 c1, .slice A2 n2 c2, .int .u32 L] 33)) := (Below.refl _ _).alloc (Nat.le_refl _) _
    have hB1 : B ≤ w1.heap.size := Nat.le_trans HB.out (by omega)
    exact ⟨hi.below hbw hB1, grown_trans (grown_trans (grown_below' p HW.out) hg) (grown_below' p hbw), (HV.out.grown hg HNv.out).alloc _, Blk.new w1 33 #[.int .u32 V, .slice A1 n1 c1, .slice A2 n2 c2, .int .u32 L], by omega, Nat.le_refl _, by omega, Nat.le_trans hB1 hbw.size⟩
  have hok2 : c = 0 → V = (rt.2.1.ver : Int) ∧ L = (rt.2.1.lock : Int) ∧ TxN (w1.alloc (.cells #[.int .u32 V, .slice A1 n1 c1, .slice A2 n2 c2, .int .u32 L] 33)) rt.2.1 (.slice A1 n1 c1) (.slice A2 n2 c2) := fun h0 => by
    obtain ⟨e1, e2, h3⟩ := hok h0
    refine ⟨e1, e2, h3.fr hi (HV.out.grown hg HNv.out) ?_⟩
    have hbw : Below w1.heap.size w1 (w1.alloc (.cells #[.int .u32 V, .slice A1 n1 c1, .slice A2 n2 c2, .int .u32 L] 33)) := (Below.refl _ _).alloc (Nat.le_refl _) _
    exact ⟨hbw.os, hbw.tape, hbw.output, hbw.size, fun k hk _ _ => hbw.block k hk⟩
  obtain ⟨tb, htb⟩ : ∃ n, n = w1.heap.size := ⟨_, rfl⟩
  generalize (w1.alloc (.cells #[.int .u32 V, .slice A1 n1 c1, .slice A2 n2 c2, .int .u32 L] 33)) = W1 at hPS hok2 ⊢
  rw [← htb] at hPS ⊢
  have HQ := Lib.hid hPS
  have HOk := Lib.hid hok2
  have HR := Lib.hid hr
  have hrt : Hid (rt.1 = c) := hr
  clear hPS K1 hi hg HV HNv htb HB HW hok hok2 hr
  by_cases hc : c = 0
  · subst hc
    obtain ⟨rfl, rfl, hTX⟩ := HOk.out rfl
    have HTX := Lib.hid hTX
    clear HOk hTX
    cases hN : rt.2.2.isNone
    · have hpe := HRP.out
      rw [hrt.out, hN, if_neg (by simp), if_pos rfl] at hpe
      subst hpe
      clear HRP
      have cc0 := HQ.out.tbb.cell (j := 0) rfl
      have cc1 := HQ.out.tbb.cell (j := 1) rfl
      have cc2 := HQ.out.tbb.cell (j := 2) rfl
      have cc3 := HQ.out.tbb.cell (j := 3) rfl
      have d0 := HQ.out.rvb.cell (j := 0) rfl
      have d1 := HQ.out.rvb.cell (j := 1) rfl
      have d2 := HQ.out.rvb.cell (j := 2) rfl
      have d3 := HQ.out.rvb.cell (j := 3) rfl
      have f0 := HQ.out.rvb.free 0
      have f1 := HQ.out.rvb.free 1
      have f2 := HQ.out.rvb.free 2
      have f3 := HQ.out.rvb.free 3
      go_wp2_with (go_at_call 20; (with_reducible refine (KT.out _ _ HQ.out.rd).mono ?_); rintro e w2 ⟨rfl, rfl⟩; rw [hN]; dsimp only)
      generalize hW9 : (((W1.setCell ⟨w.heap.size, 0, none⟩ (.int .u32 (rp.2.1.ver : Int))).setCell ⟨w.heap.size, 1, none⟩ (.slice A1 n1 c1)).setCell ⟨w.heap.size, 2, none⟩ (.slice A2 n2 c2)).setCell ⟨w.heap.size, 3, none⟩ (.int .u32 (rp.2.1.lock : Int)) = W9
      obtain ⟨g1, g2, g3, g4⟩ := HQ.out.fin hW9
      have hlv := run_loadVar_mid (P := Try.prog) W9 w.heap.size 0 33 _ _ g1.range Try.underlying33 rfl info26
      have hfin : ParsePost rp B p w (.returned (.tuple #[.agg #[.int .u32 (rp.2.1.ver : Int), .slice A1 n1 c1, .slice A2 n2 c2, .int .u32 (rp.2.1.lock : Int)], .int .i64 0])) W9 := ⟨.slice A1 n1 c1, .slice A2 n2 c2, by rw [hrt.out]; rfl, fun _ => HTX.out.fr HQ.out.rd HQ.out.rvb g4, fun h => absurd hrt.out h, g2, g3⟩
      exact bodyPost_ret (v := .tuple #[.agg #[.int .u32 (rp.2.1.ver : Int), .slice A1 n1 c1, .slice A2 n2 c2, .int .u32 (rp.2.1.lock : Int)], .int .i64 0]) (by simp [results, Try.results8, asAddr, hlv]) rfl hfin
    · have hpe := HRP.out
      rw [hrt.out, hN, if_pos ⟨rfl, rfl⟩] at hpe
      clear HRP
      have HPE := Lib.hid hpe
      clear hpe
      have cc0 := HQ.out.tbb.cell (j := 0) rfl
      have cc1 := HQ.out.tbb.cell (j := 1) rfl
      have cc2 := HQ.out.tbb.cell (j := 2) rfl
      have cc3 := HQ.out.tbb.cell (j := 3) rfl
      have d0 := HQ.out.rvb.cell (j := 0) rfl
      have d1 := HQ.out.rvb.cell (j := 1) rfl
      have d2 := HQ.out.rvb.cell (j := 2) rfl
      have d3 := HQ.out.rvb.cell (j := 3) rfl
      have f0 := HQ.out.rvb.free 0
      have f1 := HQ.out.rvb.free 1
      have f2 := HQ.out.rvb.free 2
      have f3 := HQ.out.rvb.free 3
      go_wp2_with (go_at_call 20; (with_reducible refine (KT.out _ _ HQ.out.rd).mono ?_); rintro e w2 ⟨rfl, rfl⟩; rw [hN]; dsimp only)
      generalize hW9 : (((W1.setCell ⟨w.heap.size, 0, none⟩ (.int .u32 0)).setCell ⟨w.heap.size, 1, none⟩ (.slice none 0 0)).setCell ⟨w.heap.size, 2, none⟩ (.slice none 0 0)).setCell ⟨w.heap.size, 3, none⟩ (.int .u32 0) = W9
      obtain ⟨g1, g2, g3, g4⟩ := HQ.out.fin hW9
      have hlv := run_loadVar_mid (P := Try.prog) W9 w.heap.size 0 33 _ _ g1.range Try.underlying33 rfl info26
      have hfin : ParsePost rp B p w (.returned (.tuple #[.agg #[.int .u32 0, .slice none 0 0, .slice none 0 0, .int .u32 0], .int .i64 4])) W9 := by
        rw [HPE.out]; exact ⟨.slice none 0 0, .slice none 0 0, rfl, fun h => absurd h (show (4 : Int) ≠ 0 by decide), fun _ => ⟨rfl, rfl, rfl⟩, g2, g3⟩
      exact bodyPost_ret (v := .tuple #[.agg #[.int .u32 0, .slice none 0 0, .slice none 0 0, .int .u32 0], .int .i64 4]) (by simp [results, Try.results8, asAddr, hlv]) rfl hfin
  · have hpe := HRP.out
    rw [hrt.out, if_neg (fun h => hc h.1), if_neg hc] at hpe
    have HPE := Lib.hid hpe
    have hcb : (c != 0) = true := by simpa using hc
    have hcc : (c == 0) = false := by simpa using hc
    have HC := Lib.hid hc
    clear HRP hpe HOk hc
    have cc0 := HQ.out.tbb.cell (j := 0) rfl
    have cc1 := HQ.out.tbb.cell (j := 1) rfl
    have cc2 := HQ.out.tbb.cell (j := 2) rfl
    have cc3 := HQ.out.tbb.cell (j := 3) rfl
    have d0 := HQ.out.rvb.cell (j := 0) rfl
    have d1 := HQ.out.rvb.cell (j := 1) rfl
    have d2 := HQ.out.rvb.cell (j := 2) rfl
    have d3 := HQ.out.rvb.cell (j := 3) rfl
    have f0 := HQ.out.rvb.free 0
    have f1 := HQ.out.rvb.free 1
    have f2 := HQ.out.rvb.free 2
    have f3 := HQ.out.rvb.free 3
    go_wp2_with fail
    generalize hW9 : (((W1.setCell ⟨w.heap.size, 0, none⟩ (.int .u32 0)).setCell ⟨w.heap.size, 1, none⟩ (.slice none 0 0)).setCell ⟨w.heap.size, 2, none⟩ (.slice none 0 0)).setCell ⟨w.heap.size, 3, none⟩ (.int .u32 0) = W9
    obtain ⟨g1, g2, g3, g4⟩ := HQ.out.fin hW9
    have hlv := run_loadVar_mid (P := Try.prog) W9 w.heap.size 0 33 _ _ g1.range Try.underlying33 rfl info26
    have hfin : ParsePost rp B p w (.returned (.tuple #[.agg #[.int .u32 0, .slice none 0 0, .slice none 0 0, .int .u32 0], .int .i64 c])) W9 := by
      rw [HPE.out]; exact ⟨.slice none 0 0, .slice none 0 0, rfl, fun h => absurd h HC.out, fun _ => ⟨rfl, rfl, rfl⟩, g2, g3⟩
    exact bodyPost_ret (v := .tuple #[.agg #[.int .u32 0, .slice none 0 0, .slice none 0 0, .int .u32 0], .int .i64 c]) (by simp [results, Try.results8, asAddr, hlv]) rfl hfin
open Go.RowKit
set_option linter.unusedVariables false
set_option linter.unusedSimpArgs false
set_option maxRecDepth 100000
theorem take_app {α : Type} (L M : List α) (n : Nat) (h : L.length = n) : (L ++ M).take n = L := by subst h; simp
theorem drop_app {α : Type} (L M : List α) (n : Nat) (h : L.length = n) : (L ++ M).drop n = M := by subst h; simp
theorem hasB_app (L M : List (BitVec 8)) (n : Nat) (h : L.length = n) : hasB (some (L ++ M)) n = true := by simp [hasB]; omega
theorem take_back (L M : List (BitVec 8)) (n : Nat) (h : L.length = n) : takeL (some (L ++ M)) n = L ∧ cutS (some (L ++ M)) n = some M := by
  obtain ⟨a, b, _⟩ := cut_yes (hasB_app L M n h)
  rw [a, b, Int.toNat_natCast, take_app L M n h, drop_app L M n h]
  exact ⟨rfl, rfl⟩
theorem num_back (v k : Nat) (M : List (BitVec 8)) (hk : isW k = true) (hv : v < 2 ^ (8 * k)) : numV (some (les v k ++ M)) k = v ∧ numS (some (les v k ++ M)) k = some M := by
  obtain ⟨a, b⟩ := take_back (les v k) M k (les_len v k)
  unfold numV numS
  rw [if_pos hk, if_pos hk, a, b, lev_les, Nat.mod_eq_of_lt hv]
  exact ⟨rfl, rfl⟩
theorem num4_back (v : Nat) (M : List (BitVec 8)) (hv : v < 4294967296) : numV (some (les v 4 ++ M)) 4 = v ∧ numS (some (les v 4 ++ M)) 4 = some M := num_back v 4 M rfl hv
theorem num8_back (v : Nat) (M : List (BitVec 8)) (hv : v < 18446744073709551616) : numV (some (les v 8 ++ M)) 8 = v ∧ numS (some (les v 8 ++ M)) 8 = some M := num_back v 8 M rfl hv
theorem get_back (n most : Nat) (M : List (BitVec 8)) (hn : n ≤ most) (hm : most < 1000) : gN (some (form n ++ M)) = n ∧ gS (some (form n ++ M)) = some M ∧ gE (some (form n ++ M)) most = 0 := by
  obtain ⟨a, b, c⟩ := get_of_form n (by omega) M
  refine ⟨a, b, ?_⟩
  rw [c most, if_neg (by omega)]
theorem txt_back (L M : List (BitVec 8)) (h : L.length ≤ 128) : tE (some (txt L ++ M)) 128 = 0 ∧ tL (some (txt L ++ M)) 128 = L ∧ tS (some (txt L ++ M)) 128 = some M := by
  have e : txt L ++ M = form L.length ++ (L ++ M) := by simp [txt]
  rw [e]
  obtain ⟨a, b, c⟩ := get_back L.length 128 (L ++ M) h (by omega)
  obtain ⟨d, f⟩ := take_back L M L.length rfl
  have e1 : tE (some (form L.length ++ (L ++ M))) 128 = 0 := by
    unfold tE
    rw [if_pos c, a, b, f, if_neg (by simp)]
  refine ⟨e1, ?_, ?_⟩
  · unfold tL; rw [if_pos e1, a, b, d]
  · unfold tS; rw [if_pos c, a, b, f]
def bareI (x : TIn) : TIn := ⟨x.tx, x.ix, x.sc, x.sq, []⟩
theorem in_back (x : TIn) (M : List (BitVec 8)) (h : OkIn x) (hs : x.sc.length ≤ 128) : rInE (some (inB x ++ M)) = 0 ∧ rInV (some (inB x ++ M)) = bareI x ∧ rInS (some (inB x ++ M)) = some M := by
  have e : inB x ++ M = x.tx ++ (les x.ix 4 ++ (txt x.sc ++ (les x.sq 4 ++ M))) := by simp [inB]
  rw [e]
  obtain ⟨a1, a2⟩ := take_back x.tx (les x.ix 4 ++ (txt x.sc ++ (les x.sq 4 ++ M))) 32 h.1
  have a1 : takeL (some (x.tx ++ (les x.ix 4 ++ (txt x.sc ++ (les x.sq 4 ++ M))))) 32 = x.tx := a1
  have a2 : cutS (some (x.tx ++ (les x.ix 4 ++ (txt x.sc ++ (les x.sq 4 ++ M))))) 32 = some (les x.ix 4 ++ (txt x.sc ++ (les x.sq 4 ++ M))) := a2
  have a3 : hasB (some (x.tx ++ (les x.ix 4 ++ (txt x.sc ++ (les x.sq 4 ++ M))))) 32 = true := hasB_app _ _ 32 h.1
  obtain ⟨b1, b2⟩ := num4_back x.ix (txt x.sc ++ (les x.sq 4 ++ M)) h.2.1
  obtain ⟨c1, c2, c3⟩ := txt_back x.sc (les x.sq 4 ++ M) hs
  obtain ⟨d1, d2⟩ := num4_back x.sq M h.2.2
  refine ⟨?_, ?_, ?_⟩
  · unfold rInE; rw [a2, b2, c1]
  · unfold rInV hashL; rw [if_pos a3, a1, a2, b1, b2, c2, c3, d1]; rfl
  · unfold rInS; rw [a2, b2, c3, d2]
theorem rN_back : ∀ (xs : List TIn) (M : List (BitVec 8)), (∀ x ∈ xs, OkIn x ∧ x.sc.length ≤ 128) → rN xs.length (some ((xs.map inB).flatten ++ M)) = (0, xs.map bareI, some M)
  | [], M, _ => rfl
  | x :: xs, M, h => by
    have e : ((x :: xs).map inB).flatten ++ M = inB x ++ ((xs.map inB).flatten ++ M) := by simp
    rw [e]
    obtain ⟨a, b, c⟩ := in_back x ((xs.map inB).flatten ++ M) (h x (by simp)).1 (h x (by simp)).2
    have ih := rN_back xs M (fun y hy => h y (by simp [hy]))
    simp only [List.length_cons, rN, a, if_true, b, c, ih, List.map_cons]
theorem fitE_zero {n : Nat} (h0 : 0 < n) (h : n ≤ 16) : fitE n = 0 := by
  unfold fitE
  rw [if_neg (by omega), if_neg (by omega)]
theorem cnt_back (n : Nat) (M : List (BitVec 8)) (h0 : 0 < n) (h : n ≤ 16) : pE (some (form n ++ M)) = 0 ∧ pN (some (form n ++ M)) = n ∧ gS (some (form n ++ M)) = some M := by
  obtain ⟨a, b, c⟩ := get_back n 16 M h (by omega)
  refine ⟨?_, ?_, b⟩
  · unfold pE; rw [if_pos c, a, fitE_zero h0 h]
  · unfold pN gV; rw [if_pos c, a]
theorem rIns_back (xs : List TIn) (M : List (BitVec 8)) (h0 : 0 < xs.length) (hl : xs.length ≤ 16) (h : ∀ x ∈ xs, OkIn x ∧ x.sc.length ≤ 128) : rIns (some (form xs.length ++ ((xs.map inB).flatten ++ M))) = (0, xs.map bareI, some M) := by
  obtain ⟨a, b, c⟩ := cnt_back xs.length ((xs.map inB).flatten ++ M) h0 hl
  unfold rIns
  rw [if_pos a, b, c, rN_back xs M h]
theorem i64w_u64 {z : Int} (h : -9223372036854775808 ≤ z ∧ z < 9223372036854775808) : i64w (u64 z) = z := by
  unfold i64w u64
  rw [IntKind.wrap_i64]
  omega
theorem out_back (y : TOut) (M : List (BitVec 8)) (h : OkOut y) (hs : y.sc.length ≤ 128) : tE (numS (some (outB y ++ M)) 8) 128 = 0 ∧ rOut (some (outB y ++ M)) = y ∧ tS (numS (some (outB y ++ M)) 8) 128 = some M := by
  have e : outB y ++ M = les (u64 y.vl) 8 ++ (txt y.sc ++ M) := by simp [outB]
  rw [e]
  obtain ⟨a1, a2⟩ := num8_back (u64 y.vl) (txt y.sc ++ M) (u64_lt _)
  obtain ⟨c1, c2, c3⟩ := txt_back y.sc M hs
  unfold rOut
  rw [a1, a2, c1, c2, c3, i64w_u64 h]
  exact ⟨rfl, rfl, rfl⟩
theorem rO_back : ∀ (ys : List TOut) (M : List (BitVec 8)), (∀ y ∈ ys, OkOut y ∧ y.sc.length ≤ 128) → rO ys.length (some ((ys.map outB).flatten ++ M)) = (0, ys, some M)
  | [], M, _ => rfl
  | y :: ys, M, h => by
    have e : ((y :: ys).map outB).flatten ++ M = outB y ++ ((ys.map outB).flatten ++ M) := by simp
    rw [e]
    obtain ⟨a, b, c⟩ := out_back y ((ys.map outB).flatten ++ M) (h y (by simp)).1 (h y (by simp)).2
    have ih := rO_back ys M (fun z hz => h z (by simp [hz]))
    simp only [List.length_cons, rO, a, if_true, b, c, ih]
theorem rOuts_back (ys : List TOut) (M : List (BitVec 8)) (h0 : 0 < ys.length) (hl : ys.length ≤ 16) (h : ∀ y ∈ ys, OkOut y ∧ y.sc.length ≤ 128) : rOuts (some (form ys.length ++ ((ys.map outB).flatten ++ M))) = (0, ys, some M) := by
  obtain ⟨a, b, c⟩ := cnt_back ys.length ((ys.map outB).flatten ++ M) h0 hl
  unfold rOuts
  rw [if_pos a, b, c, rO_back ys M h]
theorem rI_back : ∀ (Ls : List (List (BitVec 8))) (M : List (BitVec 8)), (∀ L ∈ Ls, L.length ≤ 128) → rI Ls.length (some ((Ls.map txt).flatten ++ M)) = (0, Ls, some M)
  | [], M, _ => rfl
  | L :: Ls, M, h => by
    have e : ((L :: Ls).map txt).flatten ++ M = txt L ++ ((Ls.map txt).flatten ++ M) := by simp
    rw [e]
    obtain ⟨a, b, c⟩ := txt_back L ((Ls.map txt).flatten ++ M) (h L (by simp))
    have ih := rI_back Ls M (fun z hz => h z (by simp [hz]))
    simp only [List.length_cons, rI, a, if_true, b, c, ih]
theorem rW_back (x : TIn) (M : List (BitVec 8)) (hl : x.wt.length ≤ 8) (h : ∀ L ∈ x.wt, L.length ≤ 128) : rW (some (witB x ++ M)) = (0, x.wt, some M) := by
  have e : witB x ++ M = form x.wt.length ++ ((x.wt.map txt).flatten ++ M) := by simp [witB]
  rw [e]
  obtain ⟨a, b, c⟩ := get_back x.wt.length 8 ((x.wt.map txt).flatten ++ M) hl (by omega)
  unfold rW
  rw [if_pos c, a, b, rI_back x.wt M h]
theorem rX_back : ∀ (xs : List TIn) (M : List (BitVec 8)), (∀ x ∈ xs, x.wt.length ≤ 8 ∧ ∀ L ∈ x.wt, L.length ≤ 128) → rX xs.length (some ((xs.map witB).flatten ++ M)) = (0, xs.map TIn.wt, some M)
  | [], M, _ => rfl
  | x :: xs, M, h => by
    have e : ((x :: xs).map witB).flatten ++ M = witB x ++ ((xs.map witB).flatten ++ M) := by simp
    rw [e]
    have a := rW_back x ((xs.map witB).flatten ++ M) (h x (by simp)).1 (h x (by simp)).2
    have ih := rX_back xs M (fun y hy => h y (by simp [hy]))
    simp only [List.length_cons, rX, a, if_true, ih, List.map_cons]
theorem wW_bare : ∀ (xs : List TIn), wW (xs.map bareI) (xs.map TIn.wt) = xs
  | [] => rfl
  | x :: xs => by
    have := wW_bare xs
    unfold wW at this ⊢
    simp only [List.map_cons, List.zipWith_cons_cons, this]
    rfl
open Go.RowKit
set_option linter.unusedVariables false
set_option linter.unusedSimpArgs false
set_option maxRecDepth 100000
theorem takeL_two (a b : BitVec 8) (M : List (BitVec 8)) : takeL (some (a :: b :: M)) 2 = [a, b] ∧ cutS (some (a :: b :: M)) 2 = some M := take_back [a, b] M 2 rfl
theorem form_small {n : Nat} (h : n ≤ 16) : form n = [BitVec.ofNat 8 n] := by
  unfold form
  rw [fst_lo (by omega), show wid n = 0 by unfold wid; rw [if_pos (by omega)]]
  rfl
theorem rM_form {n : Nat} (h0 : 0 < n) (h : n ≤ 16) (M : List (BitVec 8)) : rM (some (form n ++ M)) = false := by
  unfold rM
  rw [form_small h]
  apply decide_eq_false
  intro e
  have hb : BitVec.ofNat 8 n ≠ 0 := fun e => by
    have := congrArg BitVec.toNat e
    rw [BitVec.toNat_ofNat] at this
    simp at this
    omega
  cases M with
  | nil =>
    have : takeL (some ([BitVec.ofNat 8 n] ++ [])) 2 = [] := rfl
    rw [this] at e; cases e
  | cons b M =>
    have : takeL (some ([BitVec.ofNat 8 n] ++ b :: M)) 2 = [BitVec.ofNat 8 n, b] := (takeL_two _ b M).1
    rw [this] at e
    injection e with e
    exact hb e
/-- A transaction whose numbers are in range. -/
def TxIn (t : TTx) : Prop := (∀ x ∈ t.ins, OkIn x) ∧ (∀ y ∈ t.outs, OkOut y) ∧ t.ver < 4294967296 ∧ t.lock < 4294967296
theorem bare_none : ∀ (xs : List TIn), xs.any wit = false → xs.map bareI = xs
  | [], _ => rfl
  | x :: xs, h => by
    simp only [List.any_cons, Bool.or_eq_false_iff] at h
    rw [List.map_cons, bare_none xs h.2]
    have hw : x.wt = [] := by
      have := h.1
      simp [wit] at this
      exact this
    unfold bareI
    rw [← hw]
theorem rT_back (t : TTx) (M : List (BitVec 8)) (hc : chk t = 0) (hi : TxIn t) : rT (some (layB t (witd t) ++ M)) = (0, t, some M) := by
  obtain ⟨c1, c2, c3, c4, c5, c6, c7⟩ := chk_zero hc
  obtain ⟨i1, i2, i3, i4⟩ := hi
  obtain ⟨v, ins, outs, lock⟩ := t
  dsimp only at c1 c2 c3 c4 c5 c6 c7 i1 i2 i3 i4
  have kI := rIns_back ins (form outs.length ++ ((outs.map outB).flatten ++ ((if witd ⟨v, ins, outs, lock⟩ = true then witsB ins else []) ++ (les lock 4 ++ M)))) c6 c1 (fun x hx => ⟨i1 x hx, c3 x hx⟩)
  have kO := rOuts_back outs ((if witd ⟨v, ins, outs, lock⟩ = true then witsB ins else []) ++ (les lock 4 ++ M)) c7 c2 (fun y hy => ⟨i2 y hy, c5 y hy⟩)
  have kX := rX_back ins (les lock 4 ++ M) c4
  obtain ⟨kl1, kl2⟩ := num4_back lock M i4
  have hwd : ∀ l, witd ⟨v, ins, outs, l⟩ = witd ⟨v, ins, outs, lock⟩ := fun _ => rfl
  unfold layB
  cases hw : witd ⟨v, ins, outs, lock⟩
  · rw [hw] at kI kO
    simp only [Bool.false_eq_true, if_false, List.nil_append, List.append_nil, List.append_assoc] at kI kO ⊢
    obtain ⟨kv1, kv2⟩ := num4_back v (form ins.length ++ ((ins.map inB).flatten ++ (form outs.length ++ ((outs.map outB).flatten ++ (les lock 4 ++ M))))) i3
    have kb : ins.map bareI = ins := bare_none ins hw
    rw [kb] at kI
    unfold rT
    rw [kv1, kv2, rM_form c6 c1, if_neg (by simp)]
    unfold rT1
    rw [kI, if_pos rfl]
    unfold rT2
    rw [kO, if_pos rfl]
    unfold rT3
    rw [if_neg (by simp)]
    unfold rT4
    rw [if_neg (by simp), kl1, kl2]
  · rw [hw] at kI kO
    simp only [if_true, List.append_assoc] at kI kO ⊢
    obtain ⟨kv1, kv2⟩ := num4_back v ([0, 1] ++ (form ins.length ++ ((ins.map inB).flatten ++ (form outs.length ++ ((outs.map outB).flatten ++ (witsB ins ++ (les lock 4 ++ M))))))) i3
    obtain ⟨m1, m2⟩ := takeL_two 0 1 (form ins.length ++ ((ins.map inB).flatten ++ (form outs.length ++ ((outs.map outB).flatten ++ (witsB ins ++ (les lock 4 ++ M))))))
    have m1 : rM (some ([0, 1] ++ (form ins.length ++ ((ins.map inB).flatten ++ (form outs.length ++ ((outs.map outB).flatten ++ (witsB ins ++ (les lock 4 ++ M)))))))) = true := decide_eq_true m1
    have m2 : cutS (some ([0, 1] ++ (form ins.length ++ ((ins.map inB).flatten ++ (form outs.length ++ ((outs.map outB).flatten ++ (witsB ins ++ (les lock 4 ++ M)))))))) 2 = some (form ins.length ++ ((ins.map inB).flatten ++ (form outs.length ++ ((outs.map outB).flatten ++ (witsB ins ++ (les lock 4 ++ M)))))) := m2
    have kX : rX ins.length (some (witsB ins ++ (les lock 4 ++ M))) = (0, ins.map TIn.wt, some (les lock 4 ++ M)) := kX
    unfold rT
    rw [kv1, kv2, m1, if_pos rfl, m2]
    unfold rT1
    rw [kI, if_pos rfl]
    unfold rT2
    rw [kO, if_pos rfl]
    unfold rT3
    rw [if_pos rfl, List.length_map, kX, if_pos rfl, wW_bare]
    unfold rT4
    rw [hwd, hw, if_neg (by simp), kl1, kl2]
theorem rP_back (t : TTx) (M : List (BitVec 8)) (hc : chk t = 0) (hi : TxIn t) : rP (some (layB t (witd t) ++ M)) = (0, t, some M) := by
  unfold rP
  rw [rT_back t M hc hi, if_neg (by simp), if_pos rfl]
/-! What is parsed is laid as just those bytes. -/
theorem cut_once {s : Option (List (BitVec 8))} {n : Nat} {M : List (BitVec 8)} (h : cutS s n = some M) : s = some (takeL s n ++ M) ∧ (takeL s n).length = n ∧ hasB s n = true := by
  cases s with
  | none => cases h
  | some L =>
    by_cases hb : hasB (some L) n = true
    · obtain ⟨a, b, c⟩ := cut_yes hb
      rw [b] at h
      injection h with h
      rw [a, ← h]
      have : n ≤ L.length := by simpa using c
      exact ⟨by simp, by simp; omega, hb⟩
    · rw [(cut_no (by simpa using hb)).2] at h; cases h
theorem num_once {s : Option (List (BitVec 8))} {k : Nat} {M : List (BitVec 8)} (hk : isW k = true) (h : numS s k = some M) : s = some (les (numV s k) k ++ M) := by
  unfold numS at h
  rw [if_pos hk] at h
  obtain ⟨a, b, _⟩ := cut_once h
  unfold numV
  rw [if_pos hk]
  have := les_lev (takeL s k)
  rw [b] at this
  rw [this]
  exact a
theorem num4_once {s : Option (List (BitVec 8))} {M : List (BitVec 8)} (h : numS s 4 = some M) : s = some (les (numV s 4) 4 ++ M) := num_once (k := 4) rfl h
theorem num8_once {s : Option (List (BitVec 8))} {M : List (BitVec 8)} (h : numS s 8 = some M) : s = some (les (numV s 8) 8 ++ M) := num_once (k := 8) rfl h
theorem gE_none (most : Nat) : gE none most = 4 := by
  unfold gE gS
  rw [if_pos (Or.inl (by rfl))]
theorem get_once {s : Option (List (BitVec 8))} {most : Nat} (h : gE s most = 0) : ∃ Y, s = some (form (gN s) ++ Y) ∧ gS s = some Y ∧ gN s ≤ most := by
  cases s with
  | none => rw [gE_none] at h; cases h
  | some L =>
    obtain ⟨Y, e, f, _⟩ := get_form h
    exact ⟨Y, by rw [← e], f, gE_ne _ _ h⟩
theorem txt_once {s : Option (List (BitVec 8))} {most : Nat} (h : tE s most = 0) : ∃ M, s = some (txt (tL s most) ++ M) ∧ tS s most = some M ∧ (tL s most).length ≤ most := by
  have hg : gE s most = 0 := by
    by_cases hg : gE s most = 0
    · exact hg
    · unfold tE at h; rw [if_neg hg] at h; exact h
  obtain ⟨Y, e, f, g⟩ := get_once hg
  have eS : tS s most = cutS (gS s) (gN s) := by unfold tS; rw [if_pos hg]
  have eL : tL s most = takeL (gS s) (gN s) := by unfold tL; rw [if_pos h]
  have hn : ¬ (cutS (gS s) (gN s)).isNone = true := fun hh => by
    unfold tE at h; rw [if_pos hg, if_pos hh] at h; cases h
  obtain ⟨M, hM⟩ : ∃ M, cutS (gS s) (gN s) = some M := by
    cases hh : cutS (gS s) (gN s) with
    | none => rw [hh] at hn; exact absurd rfl hn
    | some M => exact ⟨M, rfl⟩
  obtain ⟨a, b, _⟩ := cut_once hM
  refine ⟨M, ?_, by rw [eS, hM], by rw [eL, b]; exact g⟩
  rw [eL]
  unfold txt
  rw [b]
  rw [f] at a
  injection a with a
  rw [List.append_assoc]
  have : takeL (gS s) (gN s) ++ M = Y := by rw [f]; exact a.symm
  rw [this]; exact e
theorem in_once {s : Option (List (BitVec 8))} {M : List (BitVec 8)} (h : rInE s = 0) (hM : rInS s = some M) : s = some (inB (rInV s) ++ M) ∧ (rInV s).sc.length ≤ 128 := by
  unfold rInE at h
  unfold rInS at hM
  obtain ⟨M1, e1, f1, g1⟩ := txt_once h
  have hM' := num4_once hM
  have e2 := num4_once (s := cutS s 32) (M := txt (tL (numS (cutS s 32) 4) 128) ++ M1) e1
  obtain ⟨a, b, c⟩ := cut_once (n := 32) e2
  have a : s = some (takeL s 32 ++ (les (numV (cutS s 32) 4) 4 ++ (txt (tL (numS (cutS s 32) 4) 128) ++ M1))) := a
  have c : hasB s 32 = true := c
  have eh : hashL s = takeL s 32 := by unfold hashL; rw [if_pos c]
  refine ⟨?_, g1⟩
  rw [f1] at hM'
  injection hM' with hM'
  unfold rInV inB
  dsimp only
  rw [eh, f1]
  rw [f1] at hM
  rw [List.append_assoc, List.append_assoc, List.append_assoc, ← hM']
  exact a
theorem numS_none (k : Int) : numS none k = none := by unfold numS; split <;> rfl
theorem rN_none (n : Nat) : (rN n none).2.2 = none := by
  cases n with
  | zero => rfl
  | succ n =>
    have h0 : ¬ rInE none = 0 := by
      unfold rInE tE
      rw [show numS (cutS none 32) 4 = none from numS_none 4, gE_none]; decide
    simp only [rN, h0, if_false]
    unfold rInS tS
    rw [show numS (cutS none 32) 4 = none from numS_none 4]
    rfl
theorem rN_once : ∀ (n : Nat) (s : Option (List (BitVec 8))) (M : List (BitVec 8)), (rN n s).1 = 0 → (rN n s).2.2 = some M → s = some (((rN n s).2.1.map inB).flatten ++ M) ∧ ∀ x ∈ (rN n s).2.1, x.sc.length ≤ 128
  | 0, s, M, h, hM => ⟨by simpa [rN] using hM, fun x hx => by simp [rN] at hx⟩
  | n + 1, s, M, h, hM => by
    by_cases h0 : rInE s = 0
    · simp only [rN, h0, if_true] at h hM ⊢
      obtain ⟨e, f⟩ := rN_once n (rInS s) M h hM
      obtain ⟨e1, f1⟩ := in_once h0 e
      refine ⟨by rw [List.map_cons, List.flatten_cons, List.append_assoc]; exact e1, fun x hx => ?_⟩
      rcases List.mem_cons.1 hx with rfl | hx
      · exact f1
      · exact f x hx
    · simp only [rN, h0, if_false] at h
theorem out_once {s : Option (List (BitVec 8))} {M : List (BitVec 8)} (h : tE (numS s 8) 128 = 0) (hM : tS (numS s 8) 128 = some M) : s = some (outB (rOut s) ++ M) ∧ (rOut s).sc.length ≤ 128 := by
  obtain ⟨M1, e1, f1, g1⟩ := txt_once h
  rw [hM] at f1
  cases f1
  have e2 := num8_once e1
  refine ⟨?_, g1⟩
  unfold rOut outB
  dsimp only
  have hv : u64 (i64w (numV s 8)) = numV s 8 := by
    have : numV s 8 < 18446744073709551616 := by
      have h := lev_lt (takeL s 8)
      have h1 : (takeL s 8).length ≤ 8 := by
        unfold numS at e1
        rw [if_pos (by rfl)] at e1
        obtain ⟨_, b, _⟩ := cut_once (n := 8) e1
        have b : (takeL s 8).length = 8 := b
        omega
      have h2 : 2 ^ (8 * (takeL s 8).length) ≤ 2 ^ 64 := Nat.pow_le_pow_right (by omega) (by omega)
      unfold numV
      rw [if_pos (by rfl)]
      omega
    unfold u64 i64w
    rw [IntKind.wrap_i64]
    omega
  rw [hv, List.append_assoc]
  exact e2
theorem rO_once : ∀ (n : Nat) (s : Option (List (BitVec 8))) (M : List (BitVec 8)), (rO n s).1 = 0 → (rO n s).2.2 = some M → s = some (((rO n s).2.1.map outB).flatten ++ M) ∧ ∀ x ∈ (rO n s).2.1, x.sc.length ≤ 128
  | 0, s, M, h, hM => ⟨by simpa [rO] using hM, fun x hx => by simp [rO] at hx⟩
  | n + 1, s, M, h, hM => by
    by_cases h0 : tE (numS s 8) 128 = 0
    · simp only [rO, h0, if_true] at h hM ⊢
      obtain ⟨e, f⟩ := rO_once n _ M h hM
      obtain ⟨e1, f1⟩ := out_once h0 e
      refine ⟨by rw [List.map_cons, List.flatten_cons, List.append_assoc]; exact e1, fun x hx => ?_⟩
      rcases List.mem_cons.1 hx with rfl | hx
      · exact f1
      · exact f x hx
    · simp only [rO, h0, if_false] at h
theorem rI_once : ∀ (n : Nat) (s : Option (List (BitVec 8))) (M : List (BitVec 8)), (rI n s).1 = 0 → (rI n s).2.2 = some M → s = some (((rI n s).2.1.map txt).flatten ++ M) ∧ ∀ L ∈ (rI n s).2.1, L.length ≤ 128
  | 0, s, M, h, hM => ⟨by simpa [rI] using hM, fun x hx => by simp [rI] at hx⟩
  | n + 1, s, M, h, hM => by
    by_cases h0 : tE s 128 = 0
    · simp only [rI, h0, if_true] at h hM ⊢
      obtain ⟨e, f⟩ := rI_once n _ M h hM
      obtain ⟨M1, e1, f1, g1⟩ := txt_once h0
      rw [e] at f1
      injection f1 with f1
      refine ⟨by rw [List.map_cons, List.flatten_cons, List.append_assoc, f1]; exact e1, fun x hx => ?_⟩
      rcases List.mem_cons.1 hx with rfl | hx
      · exact g1
      · exact f x hx
    · simp only [rI, h0, if_false] at h
theorem rW_once {s : Option (List (BitVec 8))} {M : List (BitVec 8)} (h : (rW s).1 = 0) (hM : (rW s).2.2 = some M) : s = some (form (rW s).2.1.length ++ (((rW s).2.1.map txt).flatten ++ M)) ∧ (rW s).2.1.length ≤ 8 ∧ ∀ L ∈ (rW s).2.1, L.length ≤ 128 := by
  by_cases hg : gE s 8 = 0
  · have eW : rW s = rI (gN s) (gS s) := by unfold rW; rw [if_pos hg]
    rw [eW] at h hM ⊢
    obtain ⟨Y, e, f, g⟩ := get_once hg
    obtain ⟨e1, f1⟩ := rI_once _ _ M h hM
    have hl := rI_len _ _ h
    rw [hl]
    refine ⟨?_, g, f1⟩
    rw [f] at e1
    injection e1 with e1
    rw [f, ← e1]; exact e
  · unfold rW at h; rw [if_neg hg] at h; exact absurd h hg
theorem rX_once : ∀ (n : Nat) (s : Option (List (BitVec 8))) (M : List (BitVec 8)) (xs : List TIn), xs.length = n → (rX n s).1 = 0 → (rX n s).2.2 = some M → s = some (((wW xs (rX n s).2.1).map witB).flatten ++ M) ∧ ∀ L ∈ (rX n s).2.1, L.length ≤ 8 ∧ ∀ l ∈ L, l.length ≤ 128
  | 0, s, M, xs, hx, h, hM => by
    cases xs with
    | nil => exact ⟨by simpa [rX, wW] using hM, fun x hx => by simp [rX] at hx⟩
    | cons => cases hx
  | n + 1, s, M, xs, hx, h, hM => by
    cases xs with
    | nil => cases hx
    | cons x xs =>
      by_cases h0 : (rW s).1 = 0
      · simp only [rX, h0, if_true] at h hM ⊢
        obtain ⟨e, f⟩ := rX_once n _ M xs (by simpa using hx) h hM
        obtain ⟨e1, f1, g1⟩ := rW_once h0 e
        refine ⟨?_, fun L hL => ?_⟩
        · have : wW (x :: xs) ((rW s).2.1 :: (rX n (rW s).2.2).2.1) = ⟨x.tx, x.ix, x.sc, x.sq, (rW s).2.1⟩ :: wW xs (rX n (rW s).2.2).2.1 := rfl
          rw [this, List.map_cons, List.flatten_cons, List.append_assoc]
          unfold witB
          dsimp only
          rw [List.append_assoc]
          exact e1
        · rcases List.mem_cons.1 hL with rfl | hL
          · exact ⟨f1, g1⟩
          · exact f L hL
      · simp only [rX, h0, if_false] at h
open Go.RowKit
set_option linter.unusedVariables false
set_option linter.unusedSimpArgs false
set_option maxRecDepth 100000
theorem fitE_pos {n : Nat} (h : fitE n = 0) : 0 < n ∧ n ≤ 16 := by
  unfold fitE at h
  split at h
  · cases h
  · split at h
    · cases h
    · omega
theorem pE_once {s : Option (List (BitVec 8))} (h : pE s = 0) : ∃ Y, s = some (form (pN s) ++ Y) ∧ gS s = some Y ∧ 0 < pN s ∧ pN s ≤ 16 := by
  by_cases hg : gE s 16 = 0
  · unfold pE at h
    rw [if_pos hg] at h
    obtain ⟨Y, e, f, g⟩ := get_once hg
    have eN : pN s = gN s := by unfold pN gV; rw [if_pos hg]
    rw [eN]
    exact ⟨Y, e, f, fitE_pos h⟩
  · unfold pE at h; rw [if_neg hg] at h; exact absurd h hg
theorem rIns_once {s : Option (List (BitVec 8))} {M : List (BitVec 8)} (h : (rIns s).1 = 0) (hM : (rIns s).2.2 = some M) : s = some (form (rIns s).2.1.length ++ (((rIns s).2.1.map inB).flatten ++ M)) ∧ 0 < (rIns s).2.1.length ∧ (rIns s).2.1.length ≤ 16 ∧ ∀ x ∈ (rIns s).2.1, x.sc.length ≤ 128 := by
  by_cases hp : pE s = 0
  · have e0 : rIns s = rN (pN s) (gS s) := by unfold rIns; rw [if_pos hp]
    rw [e0] at h hM ⊢
    obtain ⟨Y, e, f, g1, g2⟩ := pE_once hp
    obtain ⟨e1, f1⟩ := rN_once _ _ M h hM
    have hl := rN_len _ _ h
    rw [hl]
    refine ⟨?_, g1, g2, f1⟩
    rw [f] at e1
    injection e1 with e1
    rw [f, ← e1]; exact e
  · unfold rIns at h; rw [if_neg hp] at h; exact absurd h hp
theorem rOuts_once {s : Option (List (BitVec 8))} {M : List (BitVec 8)} (h : (rOuts s).1 = 0) (hM : (rOuts s).2.2 = some M) : s = some (form (rOuts s).2.1.length ++ (((rOuts s).2.1.map outB).flatten ++ M)) ∧ 0 < (rOuts s).2.1.length ∧ (rOuts s).2.1.length ≤ 16 ∧ ∀ x ∈ (rOuts s).2.1, x.sc.length ≤ 128 := by
  by_cases hp : pE s = 0
  · have e0 : rOuts s = rO (pN s) (gS s) := by unfold rOuts; rw [if_pos hp]
    rw [e0] at h hM ⊢
    obtain ⟨Y, e, f, g1, g2⟩ := pE_once hp
    obtain ⟨e1, f1⟩ := rO_once _ _ M h hM
    have hl := rO_len _ _ h
    rw [hl]
    refine ⟨?_, g1, g2, f1⟩
    rw [f] at e1
    injection e1 with e1
    rw [f, ← e1]; exact e
  · unfold rOuts at h; rw [if_neg hp] at h; exact absurd h hp
theorem chk_ok {t : TTx} (h1 : 0 < t.ins.length) (h2 : t.ins.length ≤ 16) (h3 : 0 < t.outs.length) (h4 : t.outs.length ≤ 16) (h5 : ∀ x ∈ t.ins, x.sc.length ≤ 128) (h6 : WitOk t.ins) (h7 : ∀ y ∈ t.outs, y.sc.length ≤ 128) : chk t = 0 := by
  unfold chk
  rw [fitE_zero h1 h2, fitE_zero h3 h4, if_neg (by simp), if_neg (by simp), if_neg]
  rintro (h | h)
  · obtain ⟨x, hx, h⟩ := List.any_eq_true.1 h
    have a := h5 x hx
    have b := h6 x hx
    simp [lngIn, lng] at h
    rcases h with (h | h) | ⟨l, hl, h⟩
    · omega
    · omega
    · have := b.2 l hl; omega
  · obtain ⟨y, hy, h⟩ := List.any_eq_true.1 h
    have a := h7 y hy
    simp [lngOut, lng] at h
    omega
theorem wW_sc : ∀ (xs : List TIn) (Ls : List (List (List (BitVec 8)))), (∀ x ∈ xs, x.sc.length ≤ 128) → ∀ x ∈ wW xs Ls, x.sc.length ≤ 128
  | [], _, _, x, hx => by simp [wW] at hx
  | _ :: _, [], _, x, hx => by simp [wW] at hx
  | y :: ys, L :: Ls, h, x, hx => by
    have hx : x ∈ (⟨y.tx, y.ix, y.sc, y.sq, L⟩ : TIn) :: wW ys Ls := hx
    rcases List.mem_cons.1 hx with rfl | hx
    · exact h y (by simp)
    · exact wW_sc ys Ls (fun z hz => h z (by simp [hz])) x hx
theorem wW_wits : ∀ (xs : List TIn) (Ls : List (List (List (BitVec 8)))), (∀ L ∈ Ls, L.length ≤ 8 ∧ ∀ l ∈ L, l.length ≤ 128) → WitOk (wW xs Ls)
  | [], _, _, x, hx => by simp [wW] at hx
  | _ :: _, [], _, x, hx => by simp [wW] at hx
  | y :: ys, L :: Ls, h, x, hx => by
    have hx : x ∈ (⟨y.tx, y.ix, y.sc, y.sq, L⟩ : TIn) :: wW ys Ls := hx
    rcases List.mem_cons.1 hx with rfl | hx
    · exact h L (by simp)
    · exact wW_wits ys Ls (fun z hz => h z (by simp [hz])) x hx
theorem wW_inB : ∀ (xs : List TIn) (Ls : List (List (List (BitVec 8)))), Ls.length = xs.length → (wW xs Ls).map inB = xs.map inB
  | [], _, _ => by simp [wW]
  | _ :: _, [], h => by cases h
  | y :: ys, L :: Ls, h => by
    have e : wW (y :: ys) (L :: Ls) = ⟨y.tx, y.ix, y.sc, y.sq, L⟩ :: wW ys Ls := rfl
    rw [e, List.map_cons, List.map_cons, wW_inB ys Ls (by simpa using h)]
    rfl
theorem rX_len : ∀ (n : Nat) (s : Option (List (BitVec 8))), (rX n s).1 = 0 → (rX n s).2.1.length = n
  | 0, _, _ => rfl
  | n + 1, s, h => by
    by_cases h0 : (rW s).1 = 0
    · simp only [rX, h0, if_true] at h ⊢
      simp [rX_len n _ h]
    · simp only [rX, h0, if_false] at h
theorem wit_none {xs : List TIn} (h : ∀ x ∈ xs, x.wt = []) : xs.any wit = false := by
  rw [List.any_eq_false]
  intro x hx
  simp [wit, h x hx]
theorem rOuts_none : (rOuts none).2.2 = none := by
  unfold rOuts pE
  rw [gE_none, if_neg (by decide), if_neg (by decide)]
  rfl
theorem rW_none : (rW none).2.2 = none := by
  unfold rW
  rw [gE_none, if_neg (by decide)]
  rfl
theorem rX_none (n : Nat) : (rX n none).2.2 = none := by
  cases n with
  | zero => rfl
  | succ n =>
    have h0 : ¬ (rW none).1 = 0 := by
      unfold rW
      rw [gE_none, if_neg (by decide)]; decide
    simp only [rX, h0, if_false]
    exact rW_none
def Onced (s : Option (List (BitVec 8))) (t : TTx) (M : List (BitVec 8)) : Prop := s = some (layB t (witd t) ++ M) ∧ chk t = 0 ∧ TxIn t
theorem rT_once {s : Option (List (BitVec 8))} {M : List (BitVec 8)} (h : (rT s).1 = 0) (hM : (rT s).2.2 = some M) : Onced s (rT s).2.1 M := by
  have hv := numV_4 s
  unfold rT at h hM ⊢
  by_cases hm : rM (numS s 4) = true
  · rw [if_pos hm] at h hM ⊢
    unfold rT1 at h hM ⊢
    obtain ⟨s2, hs2⟩ : ∃ x, x = cutS (numS s 4) 2 := ⟨_, rfl⟩
    rw [← hs2] at h hM ⊢
    by_cases hi : (rIns s2).1 = 0
    · rw [if_pos hi] at h hM ⊢
      unfold rT2 at h hM ⊢
      obtain ⟨s3, hs3⟩ : ∃ x, x = (rIns s2).2.2 := ⟨_, rfl⟩
      rw [← hs3] at h hM ⊢
      by_cases ho : (rOuts s3).1 = 0
      · rw [if_pos ho] at h hM ⊢
        unfold rT3 at h hM ⊢
        rw [if_pos rfl] at h hM ⊢
        obtain ⟨s4, hs4⟩ : ∃ x, x = (rOuts s3).2.2 := ⟨_, rfl⟩
        rw [← hs4] at h hM ⊢
        obtain ⟨n, hn⟩ : ∃ n, n = (rIns s2).2.1.length := ⟨_, rfl⟩
        rw [← hn] at h hM ⊢
        by_cases hx : (rX n s4).1 = 0
        · rw [if_pos hx] at h hM ⊢
          unfold rT4 at h hM ⊢
          by_cases hw : true = true ∧ witd ⟨numV s 4, wW (rIns s2).2.1 (rX n s4).2.1, (rOuts s3).2.1, 0⟩ = false
          · rw [if_pos hw] at h; exact absurd h (show ¬ (4 : Int) = 0 by decide)
          · rw [if_neg hw] at h hM ⊢
            obtain ⟨s5, hs5⟩ : ∃ x, x = (rX n s4).2.2 := ⟨_, rfl⟩
            rw [← hs5] at h hM ⊢
            have hw1 : witd ⟨numV s 4, wW (rIns s2).2.1 (rX n s4).2.1, (rOuts s3).2.1, numV s5 4⟩ = true := by
              cases hh : witd ⟨numV s 4, wW (rIns s2).2.1 (rX n s4).2.1, (rOuts s3).2.1, 0⟩ with
              | true => exact hh
              | false => exact absurd ⟨rfl, hh⟩ hw
            have e6 := num4_once hM
            obtain ⟨e5, f5⟩ := rX_once n s4 _ (rIns s2).2.1 hn.symm hx (by rw [← hs5]; exact e6)
            rw [e5] at hs4
            obtain ⟨e4, g1, g2, g3⟩ := rOuts_once ho hs4.symm
            rw [e4] at hs3
            obtain ⟨e3, k1, k2, k3⟩ := rIns_once hi hs3.symm
            rw [e3] at hs2
            obtain ⟨a, b, _⟩ := cut_once (n := 2) hs2.symm
            have em : takeL (numS s 4) 2 = [0, 1] := of_decide_eq_true hm
            have a : numS s 4 = some (takeL (numS s 4) 2 ++ _) := a
            rw [em] at a
            have e1 := num4_once a
            refine ⟨?_, ?_, ?_⟩
            · rw [hw1]
              unfold layB
              dsimp only
              rw [wW_inB _ _ (by rw [rX_len n s4 hx, hn]), wW_len, rX_len n s4 hx, ← hn, Nat.min_self]
              rw [← hn] at e1
              simp only [if_true, List.append_assoc]
              exact e1
            · refine chk_ok ?_ ?_ g1 g2 (wW_sc _ _ k3) (wW_wits _ _ f5) g3
              · show 0 < (wW _ _).length; rw [wW_len, rX_len n s4 hx, hn, Nat.min_self]; exact k1
              · show (wW _ _).length ≤ 16; rw [wW_len, rX_len n s4 hx, hn, Nat.min_self]; exact k2
            · exact ⟨wW_ok _ _ (fun x hx => (rIns_ok s2 x hx).1), rOuts_ok s3, hv, numV_4 s5⟩
        · rw [if_neg hx] at h; exact absurd h hx
      · rw [if_neg ho] at h; exact absurd h ho
    · rw [if_neg hi] at h; exact absurd h hi
  · rw [if_neg hm] at h hM ⊢
    unfold rT1 at h hM ⊢
    obtain ⟨s2, hs2⟩ : ∃ x, x = numS s 4 := ⟨_, rfl⟩
    rw [← hs2] at h hM ⊢
    by_cases hi : (rIns s2).1 = 0
    · rw [if_pos hi] at h hM ⊢
      unfold rT2 at h hM ⊢
      obtain ⟨s3, hs3⟩ : ∃ x, x = (rIns s2).2.2 := ⟨_, rfl⟩
      rw [← hs3] at h hM ⊢
      by_cases ho : (rOuts s3).1 = 0
      · rw [if_pos ho] at h hM ⊢
        unfold rT3 at h hM ⊢
        rw [if_neg (by simp)] at h hM ⊢
        obtain ⟨s4, hs4⟩ : ∃ x, x = (rOuts s3).2.2 := ⟨_, rfl⟩
        rw [← hs4] at h hM ⊢
        unfold rT4 at h hM ⊢
        rw [if_neg (by simp)] at h hM ⊢
        have hw1 : witd ⟨numV s 4, (rIns s2).2.1, (rOuts s3).2.1, numV s4 4⟩ = false := wit_none fun x hx => (rIns_ok s2 x hx).2
        have e6 := num4_once hM
        rw [e6] at hs4
        obtain ⟨e4, g1, g2, g3⟩ := rOuts_once ho hs4.symm
        rw [e4] at hs3
        obtain ⟨e3, k1, k2, k3⟩ := rIns_once hi hs3.symm
        rw [e3] at hs2
        have e1 := num4_once hs2.symm
        refine ⟨?_, ?_, ?_⟩
        · rw [hw1]
          unfold layB
          simp only [Bool.false_eq_true, if_false, List.append_nil, List.append_assoc]
          exact e1.trans (by rw [e6])
        · exact chk_ok k1 k2 g1 g2 k3 (fun x hx => by rw [(rIns_ok s2 x hx).2]; exact ⟨Nat.zero_le _, fun t ht => by cases ht⟩) g3
        · exact ⟨fun x hx => (rIns_ok s2 x hx).1, rOuts_ok s3, hv, numV_4 s4⟩
      · rw [if_neg ho] at h; exact absurd h ho
    · rw [if_neg hi] at h; exact absurd h hi
theorem rP_once {s : Option (List (BitVec 8))} (h : (rP s).1 = 0) : ∃ M, (rP s).2.2 = some M ∧ Onced s (rP s).2.1 M := by
  unfold rP at h ⊢
  by_cases h1 : (rT s).1 = 0 ∧ (rT s).2.2.isNone = true
  · rw [if_pos h1] at h; exact absurd h (show ¬ (4 : Int) = 0 by decide)
  · rw [if_neg h1] at h ⊢
    by_cases h2 : (rT s).1 = 0
    · rw [if_pos h2] at h ⊢
      cases hh : (rT s).2.2 with
      | none => exact absurd ⟨h2, by rw [hh]; rfl⟩ h1
      | some M => exact ⟨M, rfl, rT_once h2 hh⟩
    · rw [if_neg h2] at h; exact absurd h h2
/-! The errors. -/
def E034 (c : Int) : Prop := c = 0 ∨ c = 3 ∨ c = 4
theorem gE_034 (s : Option (List (BitVec 8))) (m : Nat) : E034 (gE s m) := by
  unfold gE
  split
  · exact .inr (.inr rfl)
  · split
    · exact .inr (.inl rfl)
    · exact .inl rfl
theorem tE_034 (s : Option (List (BitVec 8))) (m : Nat) : E034 (tE s m) := by
  unfold tE
  split
  · split
    · exact .inr (.inr rfl)
    · exact .inl rfl
  · exact gE_034 s m
theorem fitE_034 (n : Nat) : E034 (fitE n) := by
  unfold fitE
  split
  · exact .inr (.inr rfl)
  · split
    · exact .inr (.inl rfl)
    · exact .inl rfl
theorem pE_034 (s : Option (List (BitVec 8))) : E034 (pE s) := by
  unfold pE
  split
  · exact fitE_034 _
  · exact gE_034 _ _
theorem rN_034 : ∀ (n : Nat) (s : Option (List (BitVec 8))), E034 (rN n s).1
  | 0, _ => .inl rfl
  | n + 1, s => by
    by_cases h0 : rInE s = 0
    · simp only [rN, h0, if_true]; exact rN_034 n _
    · simp only [rN, h0, if_false]; exact tE_034 _ _
theorem rO_034 : ∀ (n : Nat) (s : Option (List (BitVec 8))), E034 (rO n s).1
  | 0, _ => .inl rfl
  | n + 1, s => by
    by_cases h0 : tE (numS s 8) 128 = 0
    · simp only [rO, h0, if_true]; exact rO_034 n _
    · simp only [rO, h0, if_false]; exact tE_034 _ _
theorem rI_034 : ∀ (n : Nat) (s : Option (List (BitVec 8))), E034 (rI n s).1
  | 0, _ => .inl rfl
  | n + 1, s => by
    by_cases h0 : tE s 128 = 0
    · simp only [rI, h0, if_true]; exact rI_034 n _
    · simp only [rI, h0, if_false]; exact tE_034 _ _
theorem rW_034 (s : Option (List (BitVec 8))) : E034 (rW s).1 := by
  unfold rW
  split
  · exact rI_034 _ _
  · exact gE_034 _ _
theorem rX_034 : ∀ (n : Nat) (s : Option (List (BitVec 8))), E034 (rX n s).1
  | 0, _ => .inl rfl
  | n + 1, s => by
    by_cases h0 : (rW s).1 = 0
    · simp only [rX, h0, if_true]; exact rX_034 n _
    · simp only [rX, h0, if_false]; exact rW_034 _
theorem rIns_034 (s : Option (List (BitVec 8))) : E034 (rIns s).1 := by
  unfold rIns
  split
  · exact rN_034 _ _
  · exact pE_034 _
theorem rOuts_034 (s : Option (List (BitVec 8))) : E034 (rOuts s).1 := by
  unfold rOuts
  split
  · exact rO_034 _ _
  · exact pE_034 _
theorem rT4_034 (v : Nat) (m : Bool) (i : List TIn) (o : List TOut) (s : Option (List (BitVec 8))) : E034 (rT4 v m i o s).1 := by
  unfold rT4
  split
  · exact .inr (.inr rfl)
  · exact .inl rfl
theorem rT1_034 (v : Nat) (m : Bool) (s : Option (List (BitVec 8))) : E034 (rT1 v m s).1 := by
  unfold rT1
  split
  · unfold rT2
    split
    · unfold rT3
      split
      · split
        · exact rT4_034 _ _ _ _ _
        · exact rX_034 _ _
      · exact rT4_034 _ _ _ _ _
    · exact rOuts_034 _
  · exact rIns_034 _
theorem rT_034 (s : Option (List (BitVec 8))) : E034 (rT s).1 := by
  unfold rT
  split
  · exact rT1_034 _ _ _
  · exact rT1_034 _ _ _
theorem rP_034 (s : Option (List (BitVec 8))) : E034 (rP s).1 := by
  unfold rP
  split
  · exact .inr (.inr rfl)
  · split
    · exact rT_034 s
    · exact rT_034 s
open Go.RowKit
set_option linter.unusedVariables false
set_option linter.unusedSimpArgs false
set_option maxRecDepth 100000
/-- The chapter's transaction, with a witness or without. -/
def IG (wt : List (List (BitVec 8))) : TIn := ⟨Z32, 0, [], 5, wt⟩
def TG (wt : List (List (BitVec 8))) : TTx := ⟨1, [IG wt], [⟨7, [81]⟩], 9⟩
def vG (gi go : Nat) : Value := .agg #[.int .u32 1, .slice (some ⟨gi, 0, none⟩) 1 1, .slice (some ⟨go, 0, none⟩) 1 1, .int .u32 9]
def GivenPost (w : World) (e : Ending) (w' : World) : Prop :=
  ∃ gi gs go, e = .returned (vG gi go) ∧ Blk w' gi 60 (inV (IG []) (.slice none 0 0) (.slice none 0 0)) ∧ Blk w' gs 5 [.int .u8 81] ∧ Blk w' go 65 [.int .i64 7, .slice (some ⟨gs, 0, none⟩) 1 1] ∧ w.heap.size ≤ gi ∧ Below w.heap.size w w'
theorem sl_one {w : World} {g B : Nat} (x : BitVec 8) (h : Blk w g 5 [.int .u8 (Bt x)]) (hg : g < B) : Sl w B (.slice (some ⟨g, 0, none⟩) 1 1) [x] :=
  ⟨_, 1, rfl, fun _ => ⟨g, 0, rfl, hg, fun j hj => by
    have : j = 0 := by simp at hj; omega
    subst this
    exact h.cell rfl⟩, Nat.le_refl _, by omega, fun h => by cases h⟩
theorem tg_ok {w : World} {gi gs go : Nat} {u : Value} {wt : List (List (BitVec 8))} (hi : Blk w gi 60 (inV (IG wt) (.slice none 0 0) u)) (hu : Ws w w.heap.size u wt) (ho : Blk w go 65 [.int .i64 7, .slice (some ⟨gs, 0, none⟩) 1 1]) (hs : Blk w gs 5 [.int .u8 81]) :
    TxOk w w.heap.size (TG wt) (.slice (some ⟨gi, 0, none⟩) 1 1) (.slice (some ⟨go, 0, none⟩) 1 1) := by
  refine ⟨⟨_, 1, rfl, Nat.le_refl _, by omega, fun _ => ⟨gi, 0, rfl, hi.lt, fun j hj => ?_⟩⟩, ⟨_, 1, rfl, Nat.le_refl _, by omega, fun _ => ⟨go, 0, rfl, ho.lt, fun j hj => ?_⟩⟩, show (1 : Nat) < 4294967296 by omega, show (9 : Nat) < 4294967296 by omega⟩
  · have : j = 0 := by simp [TG] at hj; omega
    subst this
    exact ⟨.slice none 0 0, u, hi.range, Sl.nil _ _, hu, rfl, show (0 : Nat) < 4294967296 by omega, show (5 : Nat) < 4294967296 by omega⟩
  · have : j = 0 := by simp [TG] at hj; omega
    subst this
    exact ⟨.slice (some ⟨gs, 0, none⟩) 1 1, ho.range, sl_one 81 hs hs.lt, show (-9223372036854775808 : Int) ≤ 7 by omega, show (7 : Int) < 9223372036854775808 by omega⟩
set_option maxHeartbeats 4000000 in
theorem given_any (w : World) : Calls Try.prog 16 #[] w (GivenPost w) := by
  go_enter Try.func16, Try.ntmps16
  go_wp2_with fail
  refine bodyPost_ret (v := vG (w.heap.size + 1) (w.heap.size + 1 + 1 + 1)) (by simp [results, Try.results16, go_sem, vG]) rfl ⟨w.heap.size + 1, w.heap.size + 1 + 1, w.heap.size + 1 + 1 + 1, rfl, ?_, ?_, ?_, by omega, ?_⟩
  · refine Blk.alloc (Blk.alloc ?_ _) _
    have := Blk.new (w.alloc (.cells #[.int .u32 1, .slice (some ⟨w.heap.size + 1, 0, none⟩) 1 1, .slice (some ⟨w.heap.size + 1 + 1 + 1, 0, none⟩) 1 1, .int .u32 9] 33)) 60 (inV (IG []) (.slice none 0 0) (.slice none 0 0)).toArray
    rw [List.toList_toArray] at this
    have e : (w.alloc (.cells #[.int .u32 1, .slice (some ⟨w.heap.size + 1, 0, none⟩) 1 1, .slice (some ⟨w.heap.size + 1 + 1 + 1, 0, none⟩) 1 1, .int .u32 9] 33)).heap.size = w.heap.size + 1 := by simp
    rw [e] at this
    exact this
  · refine Blk.alloc ?_ _
    have := Blk.new ((w.alloc (.cells #[.int .u32 1, .slice (some ⟨w.heap.size + 1, 0, none⟩) 1 1, .slice (some ⟨w.heap.size + 1 + 1 + 1, 0, none⟩) 1 1, .int .u32 9] 33)).alloc (.cells (inV (IG []) (.slice none 0 0) (.slice none 0 0)).toArray 60)) 5 #[.int .u8 81]
    have e : ((w.alloc (.cells #[.int .u32 1, .slice (some ⟨w.heap.size + 1, 0, none⟩) 1 1, .slice (some ⟨w.heap.size + 1 + 1 + 1, 0, none⟩) 1 1, .int .u32 9] 33)).alloc (.cells (inV (IG []) (.slice none 0 0) (.slice none 0 0)).toArray 60)).heap.size = w.heap.size + 1 + 1 := by simp
    rw [e] at this
    exact this
  · have := Blk.new (((w.alloc (.cells #[.int .u32 1, .slice (some ⟨w.heap.size + 1, 0, none⟩) 1 1, .slice (some ⟨w.heap.size + 1 + 1 + 1, 0, none⟩) 1 1, .int .u32 9] 33)).alloc (.cells (inV (IG []) (.slice none 0 0) (.slice none 0 0)).toArray 60)).alloc (.cells #[.int .u8 81] 5)) 65 #[.int .i64 7, .slice (some ⟨w.heap.size + 1 + 1, 0, none⟩) 1 1]
    have e : (((w.alloc (.cells #[.int .u32 1, .slice (some ⟨w.heap.size + 1, 0, none⟩) 1 1, .slice (some ⟨w.heap.size + 1 + 1 + 1, 0, none⟩) 1 1, .int .u32 9] 33)).alloc (.cells (inV (IG []) (.slice none 0 0) (.slice none 0 0)).toArray 60)).alloc (.cells #[.int .u8 81] 5)).heap.size = w.heap.size + 1 + 1 + 1 := by simp
    rw [e] at this
    exact this
  · exact ((((Below.refl _ _).alloc (Nat.le_refl _) _).alloc (by simp) _).alloc (by simp; omega) _).alloc (by simp; omega) _
def WitdPost (w : World) (e : Ending) (w' : World) : Prop :=
  ∃ gi go, e = .returned (vG gi go) ∧ TxOk w' w'.heap.size (TG [[170]]) (.slice (some ⟨gi, 0, none⟩) 1 1) (.slice (some ⟨go, 0, none⟩) 1 1) ∧ Below w.heap.size w w'
theorem blk_ne {w : World} {a b : Nat} {T T' : TypeId} {vs us : List Value} (h : Blk w a T vs) (h' : Blk w b T' us) (hT : T ≠ T') : a ≠ b := by
  intro e
  subst e
  unfold Blk at h h'
  rw [h] at h'
  simp at h'
  exact hT h'.2
theorem inV_set {wt : List (List (BitVec 8))} {s u v : Value} : (inV (IG wt) s u).set 35 v = inV (IG [[170]]) s v := rfl
set_option maxHeartbeats 4000000 in
theorem witness_any (w : World) : Calls Try.prog 17 #[] w (WitdPost w) := by
  have K := Lib.hid (given_any)
  have hb0 : Hid (Below w.heap.size w (w.alloc (Obj.cells #[.int .u32 0, .slice none 0 0, .slice none 0 0, .int .u32 0] 33))) := (Below.refl _ _).alloc (Nat.le_refl _) _
  go_enter Try.func17, Try.ntmps17
  go_upto_region 2 with (go_at_call 16; (refine (K.out _).mono ?_); rintro e w2 ⟨gi, gs, go, rfl, hI, hS, hO, hge, hb⟩; have HI := Lib.hid hI; have HS := Lib.hid hS; have HO := Lib.hid hO; have HB := Lib.hid hb; have HGe := Lib.hid hge; clear hI hS hO hb hge; unfold vG; dsimp only)
  have hT : Blk (w2.alloc (.cells #[.int .u32 1, .slice (some ⟨gi, 0, none⟩) 1 1, .slice (some ⟨go, 0, none⟩) 1 1, .int .u32 9] 33)) w2.heap.size 33 [.int .u32 1, .slice (some ⟨gi, 0, none⟩) 1 1, .slice (some ⟨go, 0, none⟩) 1 1, .int .u32 9] := Blk.new w2 33 #[.int .u32 1, .slice (some ⟨gi, 0, none⟩) 1 1, .slice (some ⟨go, 0, none⟩) 1 1, .int .u32 9]
  have hI := HI.out.alloc (.cells #[.int .u32 1, .slice (some ⟨gi, 0, none⟩) 1 1, .slice (some ⟨go, 0, none⟩) 1 1, .int .u32 9] 33)
  have hS := HS.out.alloc (.cells #[.int .u32 1, .slice (some ⟨gi, 0, none⟩) 1 1, .slice (some ⟨go, 0, none⟩) 1 1, .int .u32 9] 33)
  have hO := HO.out.alloc (.cells #[.int .u32 1, .slice (some ⟨gi, 0, none⟩) 1 1, .slice (some ⟨go, 0, none⟩) 1 1, .int .u32 9] 33)
  have hW : Blk (w2.alloc (.cells #[.int .u32 1, .slice (some ⟨gi, 0, none⟩) 1 1, .slice (some ⟨go, 0, none⟩) 1 1, .int .u32 9] 33)) w.heap.size 33 [.int .u32 0, .slice none 0 0, .slice none 0 0, .int .u32 0] :=
    (Blk.below (Blk.new w 33 #[.int .u32 0, .slice none 0 0, .slice none 0 0, .int .u32 0]) HB.out (by simp)).alloc _
  have hb : Below w.heap.size w (w2.alloc (.cells #[.int .u32 1, .slice (some ⟨gi, 0, none⟩) 1 1, .slice (some ⟨go, 0, none⟩) 1 1, .int .u32 9] 33)) := (hb0.out.trans (HB.out.mono (by simp))).alloc (by have := HB.out.size; simp at this; omega) _
  have hge : w.heap.size < gi := by have := HGe.out; simp at this; omega
  have htg : w2.heap.size ≠ gi := by have := HI.out.lt; omega
  have hwt : w.heap.size ≠ w2.heap.size := by have := HB.out.size; simp at this; omega
  generalize w2.alloc (.cells #[.int .u32 1, .slice (some ⟨gi, 0, none⟩) 1 1, .slice (some ⟨go, 0, none⟩) 1 1, .int .u32 9] 33) = w3 at hT hI hS hO hW hb ⊢
  generalize w2.heap.size = tb at hT htg hwt ⊢
  have ct := hT.cell (j := 1) (v := .slice (some ⟨gi, 0, none⟩) 1 1) rfl
  have hI5 := (hI.alloc (.cells #[.int .u8 170] 5)).alloc (.cells #[.slice (some ⟨w3.heap.size, 0, none⟩) 1 1] 22)
  have hT5 := (hT.alloc (.cells #[.int .u8 170] 5)).alloc (.cells #[.slice (some ⟨w3.heap.size, 0, none⟩) 1 1] 22)
  have hS5 := (hS.alloc (.cells #[.int .u8 170] 5)).alloc (.cells #[.slice (some ⟨w3.heap.size, 0, none⟩) 1 1] 22)
  have hO5 := (hO.alloc (.cells #[.int .u8 170] 5)).alloc (.cells #[.slice (some ⟨w3.heap.size, 0, none⟩) 1 1] 22)
  have hW5 := (hW.alloc (.cells #[.int .u8 170] 5)).alloc (.cells #[.slice (some ⟨w3.heap.size, 0, none⟩) 1 1] 22)
  have h170 : Blk ((w3.alloc (.cells #[.int .u8 170] 5)).alloc (.cells #[.slice (some ⟨w3.heap.size, 0, none⟩) 1 1] 22)) w3.heap.size 5 [.int .u8 170] := (Blk.new w3 5 #[.int .u8 170]).alloc _
  have hwi : Blk ((w3.alloc (.cells #[.int .u8 170] 5)).alloc (.cells #[.slice (some ⟨w3.heap.size, 0, none⟩) 1 1] 22)) (w3.heap.size + 1) 22 [.slice (some ⟨w3.heap.size, 0, none⟩) 1 1] := by
    have := Blk.new (w3.alloc (.cells #[.int .u8 170] 5)) 22 #[.slice (some ⟨w3.heap.size, 0, none⟩) 1 1]
    have e : (w3.alloc (.cells #[.int .u8 170] 5)).heap.size = w3.heap.size + 1 := by simp
    rw [e] at this
    exact this
  have hb5 : Below w.heap.size w ((w3.alloc (.cells #[.int .u8 170] 5)).alloc (.cells #[.slice (some ⟨w3.heap.size, 0, none⟩) 1 1] 22)) := (hb.alloc hb.size _).alloc (by have := hb.size; simp; omega) _
  have ci := hI5.cell (j := 35) (v := .slice none 0 0) rfl
  have fi := hI5.free 35
  have H5 := Lib.hid (⟨hI5, hT5, hS5, hO5, hW5, h170, hwi⟩ : _ ∧ _ ∧ _ ∧ _ ∧ _ ∧ _ ∧ _)
  have Hb5 := Lib.hid hb5
  clear hT hI hS hO hW hb hI5 hT5 hS5 hO5 hW5 h170 hwi hb5 HI HS HO HB HGe
  go_upto_region 3 with fail
  obtain ⟨hI5, hT5, hS5, hO5, hW5, h170, hwi⟩ := H5.out
  have hI6 := hI5.set 35 (.slice (some ⟨w3.heap.size + 1, 0, none⟩) 1 1)
  rw [inV_set] at hI6
  have hT6 := hT5.other (a := ⟨gi, 35, none⟩) htg (.slice (some ⟨w3.heap.size + 1, 0, none⟩) 1 1)
  have hS6 := hS5.other (a := ⟨gi, 35, none⟩) (blk_ne hS5 hI5 (by decide)) (.slice (some ⟨w3.heap.size + 1, 0, none⟩) 1 1)
  have hO6 := hO5.other (a := ⟨gi, 35, none⟩) (blk_ne hO5 hI5 (by decide)) (.slice (some ⟨w3.heap.size + 1, 0, none⟩) 1 1)
  have hW6 := hW5.other (a := ⟨gi, 35, none⟩) (blk_ne hW5 hI5 (by decide)) (.slice (some ⟨w3.heap.size + 1, 0, none⟩) 1 1)
  have h6 := h170.other (a := ⟨gi, 35, none⟩) (blk_ne h170 hI5 (by decide)) (.slice (some ⟨w3.heap.size + 1, 0, none⟩) 1 1)
  have hw6 := hwi.other (a := ⟨gi, 35, none⟩) (blk_ne hwi hI5 (by decide)) (.slice (some ⟨w3.heap.size + 1, 0, none⟩) 1 1)
  have hb6 : Below w.heap.size w (((w3.alloc (.cells #[.int .u8 170] 5)).alloc (.cells #[.slice (some ⟨w3.heap.size, 0, none⟩) 1 1] 22)).setCell ⟨gi, 35, none⟩ (.slice (some ⟨w3.heap.size + 1, 0, none⟩) 1 1)) := Below.setCell Hb5.out (show w.heap.size ≤ gi by omega) _
  clear hI5 hT5 hS5 hO5 hW5 h170 hwi H5 Hb5 ci fi ct
  generalize ((w3.alloc (.cells #[.int .u8 170] 5)).alloc (.cells #[.slice (some ⟨w3.heap.size, 0, none⟩) 1 1] 22)).setCell ⟨gi, 35, none⟩ (.slice (some ⟨w3.heap.size + 1, 0, none⟩) 1 1) = w6 at hI6 hT6 hS6 hO6 hW6 h6 hw6 hb6 ⊢
  have t0 := hT6.cell (j := 0) rfl
  have t1 := hT6.cell (j := 1) rfl
  have t2 := hT6.cell (j := 2) rfl
  have t3 := hT6.cell (j := 3) rfl
  have c0 := hW6.cell (j := 0) rfl
  have c1 := hW6.cell (j := 1) rfl
  have c2 := hW6.cell (j := 2) rfl
  have c3 := hW6.cell (j := 3) rfl
  have f0 := hW6.free 0
  have f1 := hW6.free 1
  have f2 := hW6.free 2
  have f3 := hW6.free 3
  have e : ∀ {a : Nat} {T : TypeId} {vs : List Value}, Blk w6 a T vs → a ≠ w.heap.size → Blk (w6.setCells w.heap.size 0 [.int .u32 1, .slice (some ⟨gi, 0, none⟩) 1 1, .slice (some ⟨go, 0, none⟩) 1 1, .int .u32 9]) a T vs := fun h hne => Blk.other_setCells hne _ _ _ h
  have H7 : Hid (TxOk (w6.setCells w.heap.size 0 [.int .u32 1, .slice (some ⟨gi, 0, none⟩) 1 1, .slice (some ⟨go, 0, none⟩) 1 1, .int .u32 9]) (w6.setCells w.heap.size 0 [.int .u32 1, .slice (some ⟨gi, 0, none⟩) 1 1, .slice (some ⟨go, 0, none⟩) 1 1, .int .u32 9]).heap.size (TG [[170]]) (.slice (some ⟨gi, 0, none⟩) 1 1) (.slice (some ⟨go, 0, none⟩) 1 1)) := by
    have n6 := e h6 (blk_ne h6 hW6 (by decide))
    have nw := e hw6 (blk_ne hw6 hW6 (by decide))
    exact tg_ok (e hI6 (by omega)) ⟨_, 1, rfl, Nat.le_refl _, by omega, fun _ => ⟨_, 0, rfl, nw.lt, fun j hj => by
      have : j = 0 := by simp at hj; omega
      subst this
      exact ⟨_, nw.cell rfl, sl_one 170 n6 n6.lt⟩⟩⟩ (e hO6 (blk_ne hO6 hW6 (by decide))) (e hS6 (blk_ne hS6 hW6 (by decide)))
  have Hb7 : Hid (Below w.heap.size w (w6.setCells w.heap.size 0 [.int .u32 1, .slice (some ⟨gi, 0, none⟩) 1 1, .slice (some ⟨go, 0, none⟩) 1 1, .int .u32 9])) := below_setCells (Nat.le_refl _) _ _ _ hb6
  have H8 : Hid (Blk ((((w6.setCell ⟨w.heap.size, 0, none⟩ (.int .u32 1)).setCell ⟨w.heap.size, 1, none⟩ (.slice (some ⟨gi, 0, none⟩) 1 1)).setCell ⟨w.heap.size, 2, none⟩ (.slice (some ⟨go, 0, none⟩) 1 1)).setCell ⟨w.heap.size, 3, none⟩ (.int .u32 9)) w.heap.size 33 [.int .u32 1, .slice (some ⟨gi, 0, none⟩) 1 1, .slice (some ⟨go, 0, none⟩) 1 1, .int .u32 9]) := hW6.setCells [.int .u32 1, .slice (some ⟨gi, 0, none⟩) 1 1, .slice (some ⟨go, 0, none⟩) 1 1, .int .u32 9] rfl
  clear e hI6 hT6 hS6 hO6 hW6 h6 hw6 hb6
  go_wp2_with fail
  have d0 := H8.out.cell (j := 0) rfl
  have d1 := H8.out.cell (j := 1) rfl
  have d2 := H8.out.cell (j := 2) rfl
  have d3 := H8.out.cell (j := 3) rfl
  exact bodyPost_ret (v := vG gi go) (by simp [results, Try.results17, go_sem, vG, d0, d1, d2, d3]) rfl ⟨gi, go, rfl, H7.out, Hb7.out⟩
end Go.Proofs.Ytnkkhmgplpkjbaa
