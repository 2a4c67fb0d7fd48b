/- What block.parsedTxs returns: the number of transactions, and these, one behind the other. What block.Parse returns. What block.Put returns. What slices.EqualFunc over lists of byte strings returns. Whether two outpoints are equal. What tx.sameIn and sameOut return: whether two inputs, two outputs are equal. -/
import Derived.Test.YtpamepkcbhoiaaaZoa
import Derived.Test.YtpamepkcbhoiaaaZob
import Derived.Test.YtpamepkcbhoiaaaZoc
import Derived.Test.YtpamepkcbhoiaaaZod
import Derived.Test.YtpamepkcbhoiaaaZoe
import Derived.Test.YtpamepkcbhoiaaaZof
import Derived.Test.YtpamepkcbhoiaaaZog
import Derived.Outline
import Derived.Stop.BytesEq
import Derived.Laws.StructEq
namespace Go.Proofs.Ytpamepkcbhoiaaa
open Go.RowKit
set_option linter.unusedVariables false
set_option linter.unusedSimpArgs false
set_option maxRecDepth 100000
/-- A transaction's cells. -/
def tx4 (t : TTx) (i o : Value) : List Value := [.int .u32 (t.ver : Int), i, o, .int .u32 (t.lock : Int)]
def z4 : List Value := [.int .u32 0, .slice none 0 0, .slice none 0 0, .int .u32 0]
/-- Transactions' cells, each of the program's own making. -/
def TxsW (w : World) : List TTx → List Value → Prop
  | [], vs => vs = []
  | t :: ts, vs => ∃ i o r, vs = tx4 t i o ++ r ∧ TxN w t i o ∧ TxsW w ts r
theorem TxsW.fr {w w' : World} {B b : Nat} {p : Option Nat} {s : Option (List (BitVec 8))} {us : List Value} (hR : IsR w B p s) (hb : Blk w b 60 us) (hf : Fr w w' p (some b)) : ∀ {ts : List TTx} {vs : List Value}, TxsW w ts vs → TxsW w' ts vs
  | [], _, h => h
  | t :: ts, _, ⟨i, o, r, e, hi, hr⟩ => ⟨i, o, r, e, hi.fr hR hb hf, TxsW.fr hR hb hf hr⟩
theorem TxsW.below {w w' : World} (hb : Below w.heap.size w w') : ∀ {ts : List TTx} {vs : List Value}, TxsW w ts vs → TxsW w' ts vs
  | [], _, h => h
  | t :: ts, _, ⟨i, o, r, e, hi, hr⟩ => ⟨i, o, r, e, hi.below hb, TxsW.below hb hr⟩
theorem TxsW.app {w : World} : ∀ {xs ys : List TTx} {vs ws : List Value}, TxsW w xs vs → TxsW w ys ws → TxsW w (xs ++ ys) (vs ++ ws)
  | [], _, _, _, h, h2 => by cases h; exact h2
  | x :: xs, ys, _, ws, ⟨i, o, r, e, hi, hr⟩, h2 => ⟨i, o, r ++ ws, by rw [e, List.append_assoc], hi, hr.app h2⟩
theorem TxsW.len {w : World} : ∀ {xs : List TTx} {vs : List Value}, TxsW w xs vs → vs.length = 4 * xs.length
  | [], _, h => by cases h; rfl
  | x :: xs, _, ⟨i, o, r, e, hi, hr⟩ => by rw [e, List.length_append, hr.len, List.length_cons]; simp [tx4]; omega
theorem info60z : (Try.prog.info? 60).map (fun i => (i.zero, i.size)) = some (some (.agg z4.toArray), 4) := by kernel_rfl
theorem info60b : (Try.prog.info? 60).all (fun i => decide (i.bytes ≤ 1000)) = true := by kernel_rfl
theorem made_tx (n : Nat) (hn : n ≤ 32) : madeCells z4.toArray (n * 4) = (List.replicate n z4).flatten.toArray := by
  apply Array.toList_inj.1
  have hf : ∀ m, (madeCells z4.toArray m).toList = (List.range m).map fun i => z4.toArray[i % z4.toArray.size]! := by
    intro m
    unfold madeCells
    rw [Array.toList_map, Array.toList_range]
  have hs : z4.toArray.size = 4 := rfl
  rw [hf, range_flatten _ 4 z4 (by kernel_rfl) (fun i => by rw [hs, Nat.add_mod_left]) n]
theorem make_tx (n : Nat) (hn : n ≤ 32) (w : World) : (Instr.makeSlice 28 (.int .u64 (n : Int)) (.int .u64 (n : Int))).run Try.prog w = .ok (.slice (some ⟨w.heap.size, 0, none⟩) n n) (w.alloc (.cells (List.replicate n z4).flatten.toArray 60)) := by
  obtain ⟨i0, hi, hz, hb⟩ : ∃ i, Try.prog.info? 60 = some i ∧ (i.zero, i.size) = (some (.agg z4.toArray), 4) ∧ i.bytes ≤ 1000 := by
    have h1 := info60z
    have h2 := info60b
    cases h : Try.prog.info? 60 with
    | none => rw [h] at h1; cases h1
    | some i => rw [h] at h1 h2; exact ⟨i, rfl, by simpa using h1, by simpa using h2⟩
  injection hz with hz0 hz1
  have hbn : (i0.bytes : Int) * (n : Int) ≤ 281474976710656 := by
    have : i0.bytes * n ≤ 1000 * 32 := Nat.mul_le_mul hb hn
    have h2 : ((i0.bytes * n : Nat) : Int) ≤ 281474976710656 := by omega
    rwa [Int.natCast_mul] at h2
  have hr := run_make (P := Try.prog) w 28 60 i0 (.agg z4.toArray) Try.underlying28 hi hz0 .u64 .u64 (n : Int) (n : Int) (by omega) (by omega) hbn (by omega)
  rw [hr, show ((n : Int)).toNat = n by omega, hz1, show (Value.agg z4.toArray).cells = z4.toArray from rfl, made_tx n hn]
/-- n transactions parsed of s: the error, the transactions, what is left. -/
def rB : Nat → Option (List (BitVec 8)) → Int × List TTx × Option (List (BitVec 8))
  | 0, s => (0, [], s)
  | n + 1, s => if (rP s).1 = 0 then ((rB n (rP s).2.2).1, (rP s).2.1 :: (rB n (rP s).2.2).2.1, (rB n (rP s).2.2).2.2) else ((rP s).1, [], (rP s).2.2)
/-- The number of transactions, and these. -/
def rK (s : Option (List (BitVec 8))) : Int × List TTx × Option (List (BitVec 8)) :=
  if gE s 32 = 0 then (if gN s = 0 then (4, [], gS s) else rB (gN s) (gS s)) else (gE s 32, [], gS s)
theorem rB_len : ∀ (n : Nat) (s : Option (List (BitVec 8))), (rB n s).1 = 0 → (rB n s).2.1.length = n
  | 0, _, _ => rfl
  | n + 1, s, h => by
    by_cases h0 : (rP s).1 = 0
    · simp only [rB, h0, if_true] at h ⊢
      simp [rB_len n _ h]
    · simp only [rB, h0, if_false] at h
theorem rP_short {s : Option (List (BitVec 8))} {k : Nat} (h : Short s k) : Short (rP s).2.2 k := by
  have h4 : ∀ v m i o s, Short s k → Short (rT4 v m i o s).2.2 k := fun v m i o s h => by
    unfold rT4
    split
    · exact h
    · show Short (numS s 4) k
      exact numS_short h _
  have h3 : ∀ v m i o s, Short s k → Short (rT3 v m i o s).2.2 k := fun v m i o s h => by
    unfold rT3
    split
    · split
      · exact h4 _ _ _ _ _ (rX_short _ _ h)
      · exact rX_short _ _ h
    · exact h4 _ _ _ _ _ h
  have h2 : ∀ v m i s, Short s k → Short (rT2 v m i s).2.2 k := fun v m i s h => by
    unfold rT2
    split
    · exact h3 _ _ _ _ _ (rOuts_short h)
    · exact rOuts_short h
  have h1 : ∀ v m s, Short s k → Short (rT1 v m s).2.2 k := fun v m s h => by
    unfold rT1
    split
    · exact h2 _ _ _ _ (rIns_short h)
    · exact rIns_short h
  have ht : Short (rT s).2.2 k := by
    unfold rT
    split
    · exact h1 _ _ _ (cutS_short (numS_short h _) _)
    · exact h1 _ _ _ (numS_short h _)
  unfold rP
  split
  · exact ht
  · split
    · exact ht
    · exact ht
theorem set4 {w W' : World} {rb o B : Nat} {p : Option Nat} {s : Option (List (BitVec 8))} {pre z post : List Value} {a b c d : Value} (h : Blk w rb 60 (pre ++ (z ++ post))) (hz : z.length = 4) (ho : o = pre.length) (hR : IsR w B p s)
    (e : (((w.setCell ⟨rb, o, none⟩ a).setCell ⟨rb, o + 1, none⟩ b).setCell ⟨rb, o + 2, none⟩ c).setCell ⟨rb, o + 3, none⟩ d = W') : Blk W' rb 60 (pre ++ ([a, b, c, d] ++ post)) ∧ IsR W' B p s ∧ Fr w W' p (some rb) := by
  subst ho
  have e' : w.setCells rb pre.length [a, b, c, d] = W' := e
  rw [← e']
  exact ⟨Blk.setCells_mid rb 60 [a, b, c, d] z pre post w (by rw [hz]; rfl) h, IsR.stores (by decide) (by decide) [a, b, c, d] _ w _ h hR, Fr.stores w p rb [a, b, c, d] _ w (Fr.refl _ _ _)⟩
def KPost (r : Int × List TTx × Option (List (BitVec 8))) (B : Nat) (p : Option Nat) (w : World) (e : Ending) (w' : World) : Prop :=
  ∃ A n cap c, e = .returned (.tuple #[.slice A n cap, .int .i64 c]) ∧ r.1 = c ∧ IsR w' B p r.2.2 ∧ w.grownBy w' p ∧ (c ≠ 0 → A = none ∧ n = 0 ∧ cap = 0) ∧ (c = 0 → ∃ rb vs, A = some ⟨rb, 0, none⟩ ∧ r.2.1.length = n ∧ cap = n ∧ TxsW w' r.2.1 vs ∧ Blk w' rb 60 vs ∧ w.heap.size ≤ rb)
set_option maxHeartbeats 4000000 in
theorem parsedTxs_any (p : Option Nat) (s : Option (List (BitVec 8))) (B : Nat) (w : World) (h : IsR w B p s) (hB : B ≤ w.heap.size) (hl : Short s 100000000) :
    Calls Try.prog 17 #[ptr p] w (KPost (rK s) B p w) := by
  obtain ⟨q, hP⟩ : ∃ q, Value.pointer q = ptr p := ⟨_, rfl⟩
  have K : Hid (Calls Try.prog 35 #[ptr p, .int .u64 32] w (GetPost (gV s 32) (gE s 32) (gS s) B p w)) := get_any p s 32 B w h hB
  have HP := Lib.hid hP
  have HB := Lib.hid hB
  have HL := Lib.hid (gS_short hl)
  rw [← hP] at K ⊢
  by_cases he : gE s 32 = 0
  · have eV : gV s 32 = gN s := by unfold gV; rw [if_pos he]
    have hN := gE_ne s 32 he
    rw [he, eV] at K
    by_cases h0 : gN s = 0
    · have eK : rK s = (4, [], gS s) := by unfold rK; rw [if_pos he, if_pos h0]
      rw [eK]
      rw [h0] at K
      obtain ⟨s1, hs1⟩ : ∃ s', s' = gS s := ⟨_, rfl⟩
      rw [← hs1] at K ⊢
      clear h hB hl he eV hN h0 eK hs1 hP HL
      go_enter Try.func17, Try.ntmps17
      go_wp2_with (go_at_call 35; (with_reducible refine K.out.mono ?_); rintro e w1 ⟨rfl, hi, hg⟩; have HI := Lib.hid hi; have HG := Lib.hid hg; clear hi hg K; dsimp only)
      go_ret2
      exact ⟨none, 0, 0, 4, rfl, rfl, HI.out, HG.out, fun _ => ⟨rfl, rfl, rfl⟩, fun h => absurd h (by decide)⟩
    · have eK : rK s = rB (gN s) (gS s) := by unfold rK; rw [if_pos he, if_neg h0]
      rw [eK]
      obtain ⟨n, hn⟩ : ∃ n, n = gN s := ⟨_, rfl⟩
      obtain ⟨s1, hs1⟩ : ∃ s', s' = gS s := ⟨_, rfl⟩
      rw [← hn, ← hs1] at K ⊢
      rw [← hn] at hN h0
      rw [← hs1] at HL
      have hn0 : ((n : Int) == 0) = false := by simpa using h0
      obtain ⟨C, hC⟩ : ∃ C, C = (List.replicate n z4).flatten.toArray := ⟨_, rfl⟩
      have hM := make_tx n hN
      rw [← hC] at hM
      have HC : Hid (C.toList = (List.replicate n z4).flatten) := by rw [hC]; rfl
      have HN := Lib.hid hN
      clear h hB hl he eV hN h0 eK hn hs1 hP hC
      go_enter Try.func17, Try.ntmps17
      go_upto_region 8 with (go_at_call 35; (with_reducible refine K.out.mono ?_); rintro e w1 ⟨rfl, hi, hg⟩; have HI := Lib.hid hi; have HG := Lib.hid hg; clear hi hg K; dsimp only)
      have hbw : Below w1.heap.size w1 (w1.alloc (.cells C 60)) := (Below.refl _ _).alloc (Nat.le_refl _) _
      have hbk : Blk (w1.alloc (.cells C 60)) w1.heap.size 60 (List.replicate n z4).flatten := by have := Blk.new w1 60 C; rw [HC.out] at this; exact this
      have HBk := Lib.hid hbk
      have HB1 : Hid (B ≤ w1.heap.size) := Nat.le_trans HB.out HG.out.size
      have HI2 : Hid (IsR (w1.alloc (.cells C 60)) B p s1) := HI.out.below hbw HB1.out
      have HG2 : Hid (w.grownBy (w1.alloc (.cells C 60)) p) := grown_trans HG.out (grown_below' p hbw)
      have HS2 : Hid (B ≤ (w1.alloc (.cells C 60)).heap.size) := Nat.le_trans HB1.out hbw.size
      obtain ⟨rb, hrb⟩ : ∃ b, b = w1.heap.size := ⟨_, rfl⟩
      have HRb : Hid (w.heap.size ≤ rb) := by rw [hrb]; exact HG.out.size
      rw [← hrb] at HBk ⊢
      clear hbw hbk hM hrb HI HG HB1
      generalize (w1.alloc (.cells C 60)) = W2 at HBk HI2 HG2 HS2 ⊢
      go_loopw [22] (fun iv wq => ∃ (j : Nat), j ≤ n ∧ iv = .int .i64 (j : Int) ∧ ∃ (ts : List TTx) (s' : Option (List (BitVec 8))) (vs : List Value), ts.length = j ∧ rB n s1 = ((rB (n - j) s').1, ts ++ (rB (n - j) s').2.1, (rB (n - j) s').2.2) ∧ TxsW wq ts vs ∧ Blk wq rb 60 (vs ++ (List.replicate (n - j) z4).flatten) ∧ IsR wq B p s' ∧ Fr W2 wq p (some rb) ∧ Short s' 100000000) (fun iv _ => n - (intOf iv).toNat)
      case atStart => exact ⟨0, Nat.zero_le _, rfl, [], s1, [], rfl, by simp, rfl, by simpa using HBk.out, HI2.out, Fr.refl _ _ _, HL.out⟩
      case round =>
        obtain ⟨j, hj, rfl, ts, s', vs, htl, hrB, hts, hbk, hR, hF, hS⟩ := hrel
        by_cases hlt : j < n
        · have hlt' : (j : Int) < (n : Int) := by omega
          have h0j : (0 : Int) ≤ (j : Int) := by omega
          have KT : Hid (Calls Try.prog 36 #[.pointer q] wr (ParsePost (rP s') B p wr)) := by rw [HP.out]; exact parse_any p s' B wr hR (Nat.le_trans HS2.out hF.size) hS
          obtain ⟨k, hk⟩ : ∃ k, n - j = k + 1 := ⟨n - j - 1, by omega⟩
          have hk2 : n - (j + 1) = k := by omega
          rw [hk] at hrB hbk
          rw [List.replicate_succ, List.flatten_cons] at hbk
          have hvl : vs.length = 4 * j := by rw [hts.len, htl]
          have HSh := Lib.hid (rP_short hS)
          obtain ⟨rp, hrp⟩ : ∃ r, r = rP s' := ⟨_, rfl⟩
          have erB : rB (k + 1) s' = if rp.1 = 0 then ((rB k rp.2.2).1, rp.2.1 :: (rB k rp.2.2).2.1, (rB k rp.2.2).2.2) else (rp.1, [], rp.2.2) := by rw [hrp]; rfl
          rw [← hrp] at KT HSh
          rw [erB] at hrB
          have HrB := Lib.hid hrB
          have HTs := Lib.hid hts
          have HBj := Lib.hid hbk
          have HRj := Lib.hid hR
          have HFj := Lib.hid hF
          have HVl := Lib.hid hvl
          have HTl := Lib.hid htl
          have HNr := Lib.hid (hR.ne hbk (by decide))
          clear hrB hts hbk hR hF hS hvl hrp erB htl
          go_upto_region 11 with (go_at_call 36; go_loud ((with_reducible refine KT.out.mono ?_); rintro e w3 ⟨i, o, rfl, hok, hno, hi3, hg3⟩; obtain ⟨⟨Ai, ni, ci, rfl⟩, ⟨Ao, no, co, rfl⟩⟩ : (∃ A n c, i = .slice A n c) ∧ (∃ A n c, o = .slice A n c) := (by
            by_cases hc : rp.1 = 0
            · obtain ⟨ib, ob, e1, e2, _⟩ := hok hc; exact ⟨⟨_, _, _, e1⟩, ⟨_, _, _, e2⟩⟩
            · obtain ⟨_, e1, e2⟩ := hno hc; exact ⟨⟨_, _, _, e1⟩, ⟨_, _, _, e2⟩⟩); have hb3 := HBj.out.grown hg3 HNr.out; have HB3 := Lib.hid hb3; have HI3 := Lib.hid hi3; have HG3 := Lib.hid hg3; have Hok := Lib.hid hok; have k0 := hb3.cell (j := j * 4) (v := .int .u32 0) (by rw [show j * 4 = vs.length by rw [HVl.out]; omega]; simp [z4]); have k1 := hb3.cell (j := j * 4 + 1) (v := .slice none 0 0) (by rw [show j * 4 = vs.length by rw [HVl.out]; omega]; simp [z4]); have k2 := hb3.cell (j := j * 4 + 2) (v := .slice none 0 0) (by rw [show j * 4 = vs.length by rw [HVl.out]; omega]; simp [z4]); have k3 := hb3.cell (j := j * 4 + 3) (v := .int .u32 0) (by rw [show j * 4 = vs.length by rw [HVl.out]; omega]; simp [z4]); have f0 := hb3.free (j * 4); have f1 := hb3.free (j * 4 + 1); have f2 := hb3.free (j * 4 + 2); have f3 := hb3.free (j * 4 + 3); clear hok hno hi3 hg3 hb3 KT; dsimp only [txV]))
          generalize hW9 : (((w3.setCell ⟨rb, j * 4, none⟩ (.int .u32 (rp.2.1.ver : Int))).setCell ⟨rb, j * 4 + 1, none⟩ (.slice Ai ni ci)).setCell ⟨rb, j * 4 + 2, none⟩ (.slice Ao no co)).setCell ⟨rb, j * 4 + 3, none⟩ (.int .u32 (rp.2.1.lock : Int)) = W9
          obtain ⟨g1, g2, g3⟩ := set4 HB3.out rfl (by rw [HVl.out]; omega) HI3.out hW9
          have hF3 : Fr W2 w3 p (some rb) := HFj.out.trans (Fr.of_grown HG3.out _)
          have HFz : Hid (Fr W2 W9 p (some rb)) := hF3.trans g3
          have HTsz : Hid (TxsW W9 ts vs) := TxsW.fr HI3.out HB3.out g3 (TxsW.fr HRj.out HBj.out (Fr.of_grown HG3.out _) HTs.out)
          have Hokz : Hid (rp.1 = 0 → TxN W9 rp.2.1 (.slice Ai ni ci) (.slice Ao no co)) := fun h => (Hok.out h).fr HI3.out HB3.out g3
          have HG1 := Lib.hid g1
          have HG2z := Lib.hid g2
          clear g1 g2 g3 hF3 k0 k1 k2 k3 f0 f1 f2 f3 hW9 HB3 HI3 Hok HG3 HTs HBj HRj HFj
          by_cases hc : rp.1 = 0
          · have hcb : (rp.1 != 0) = false := by simp [hc]
            have hrB := HrB.out
            rw [if_pos hc] at hrB
            have HrB2 := Lib.hid hrB
            clear hrB HrB
            have hn32 : n ≤ 32 := HN.out
            have hj32 : (j : Int) ≤ 32 := by omega
            go_wp2_with fail
            go_roundw
            case rel =>
              refine ⟨j + 1, by omega, by go_num, ts ++ [rp.2.1], rp.2.2, vs ++ tx4 rp.2.1 (.slice Ai ni ci) (.slice Ao no co), by rw [List.length_append, HTl.out]; rfl, ?_, ?_, ?_, HG2z.out, HFz.out, HSh.out⟩
              · rw [hk2, HrB2.out]; simp
              · exact HTsz.out.app ⟨_, _, [], by simp, Hokz.out hc, rfl⟩
              · rw [hk2, List.append_assoc]; exact HG1.out
            case measure => simp [intOf]; omega
          · have hcb : (rp.1 != 0) = true := by simpa using hc
            have hrB := HrB.out
            rw [if_neg hc] at hrB
            have HrB2 := Lib.hid hrB
            have Hc := Lib.hid hc
            clear hrB HrB hc
            obtain ⟨c, hcE⟩ : ∃ c, c = rp.1 := ⟨_, rfl⟩
            rw [← hcE] at hcb ⊢
            have HcE := Lib.hid hcE
            clear hcE
            go_wp2_with fail
            go_ret2
            rw [HrB2.out]
            exact ⟨none, 0, 0, c, rfl, HcE.out.symm, HG2z.out, Fr.grown HG2.out HFz.out HRb.out, fun _ => ⟨rfl, rfl, rfl⟩, fun h => absurd (HcE.out ▸ h) Hc.out⟩
        · obtain rfl : j = n := by omega
          have hlt' : ¬ (j : Int) < (j : Int) := by omega
          rw [Nat.sub_self] at hrB hbk
          simp only [rB, List.append_nil, List.replicate_zero, List.flatten_nil] at hrB hbk
          have HrB2 := Lib.hid hrB
          have HTs := Lib.hid hts
          have HBj := Lib.hid hbk
          have HRj := Lib.hid hR
          have HFj := Lib.hid hF
          have HTl := Lib.hid htl
          clear hrB hts hbk hR hF hS htl
          go_wp2_with fail
          go_ret2
          rw [HrB2.out]
          exact ⟨_, _, _, 0, rfl, rfl, HRj.out, Fr.grown HG2.out HFj.out HRb.out, fun h => absurd rfl h, fun _ => ⟨rb, vs, rfl, HTl.out, rfl, HTs.out, HBj.out, HRb.out⟩⟩
  · have eV : gV s 32 = 0 := by unfold gV; rw [if_neg he]
    have eK : rK s = (gE s 32, [], gS s) := by unfold rK; rw [if_neg he]
    rw [eK]
    rw [eV] at K
    obtain ⟨c, hc⟩ : ∃ c, c = gE s 32 := ⟨_, rfl⟩
    rw [← hc] at K he ⊢
    obtain ⟨s1, hs1⟩ : ∃ s', s' = gS s := ⟨_, rfl⟩
    rw [← hs1] at K ⊢
    have hcb : (c != 0) = true := by simpa using he
    have Hc := Lib.hid he
    clear h hB hl he eV eK hc hs1 hP HL
    go_enter Try.func17, Try.ntmps17
    go_wp2_with (go_at_call 35; (with_reducible refine K.out.mono ?_); rintro e w1 ⟨rfl, hi, hg⟩; have HI := Lib.hid hi; have HG := Lib.hid hg; clear hi hg K; dsimp only)
    go_ret2
    exact ⟨none, 0, 0, c, rfl, rfl, HI.out, HG.out, fun _ => ⟨rfl, rfl, rfl⟩, fun h => absurd h Hc.out⟩
open Go.RowKit
set_option linter.unusedVariables false
set_option linter.unusedSimpArgs false
set_option maxRecDepth 100000
structure TBk where
  hd : THd
  txs : List TTx
def bk0 : TBk := ⟨hd0, []⟩
/-- A block's cells. -/
def bkL (h : THd) (v : Value) : List Value := hdV h ++ [v]
theorem bkL_len {h : THd} {v : Value} (k : HdOk h) : (bkL h v).length = 69 := by simp [bkL, hdV_len k]
theorem bkL_one {h : THd} {A : Option Addr} {n c : Nat} : ∀ v ∈ bkL h (.slice A n c), v.oneCell' = true := by
  intro v hv
  rcases List.mem_append.1 hv with hv | hv
  · exact hdV_one h v hv
  · simp at hv; subst hv; rfl
theorem bkzero : ∀ w, (zeroValue 30).run Try.prog w = .ok (.agg (bkL hd0 (.slice none 0 0)).toArray) w := fun _ => by kernel_rfl
theorem info30 {h : THd} {v : Value} (k : HdOk h) : (Try.prog.info? 30).map (·.size) = some (bkL h v).length := by rw [bkL_len k]; kernel_rfl
theorem info30v {h : THd} {v : Value} (k : HdOk h) : (Try.prog.info? 30).map (·.size) = some (bkL h v).toArray.size := by rw [List.size_toArray]; exact info30 k
theorem there_bk {w : World} {b : Nat} {T : TypeId} {h g : THd} {v u : Value} (hb : Blk w b T (bkL g u)) (kg : HdOk g) (kh : HdOk h) : w.there b 0 (bkL h v).toArray.size := by
  have := hb.there
  rw [bkL_len kg] at this
  rw [List.size_toArray, bkL_len kh]
  exact this
theorem built30z : Try.prog.built 30 [] = some (bkL hd0 (.slice none 0 0)).toArray := by kernel_rfl
theorem built30p (ver time bits nonce : Nat) (prev root : List (BitVec 8)) (h1 : prev.length = 32) (h2 : root.length = 32) (A : Option Addr) (n c : Nat) : Try.prog.built 30 [(0, .agg (hdV ⟨ver, prev, root, time, bits, nonce⟩).toArray), (1, .slice A n c)] = some (bkL ⟨ver, prev, root, time, bits, nonce⟩ (.slice A n c)).toArray := by
  obtain ⟨a0, p0, rfl, m0⟩ := cons_of h1
  obtain ⟨a1, p1, rfl, m1⟩ := cons_of m0
  obtain ⟨a2, p2, rfl, m2⟩ := cons_of m1
  obtain ⟨a3, p3, rfl, m3⟩ := cons_of m2
  obtain ⟨a4, p4, rfl, m4⟩ := cons_of m3
  obtain ⟨a5, p5, rfl, m5⟩ := cons_of m4
  obtain ⟨a6, p6, rfl, m6⟩ := cons_of m5
  obtain ⟨a7, p7, rfl, m7⟩ := cons_of m6
  obtain ⟨a8, p8, rfl, m8⟩ := cons_of m7
  obtain ⟨a9, p9, rfl, m9⟩ := cons_of m8
  obtain ⟨a10, p10, rfl, m10⟩ := cons_of m9
  obtain ⟨a11, p11, rfl, m11⟩ := cons_of m10
  obtain ⟨a12, p12, rfl, m12⟩ := cons_of m11
  obtain ⟨a13, p13, rfl, m13⟩ := cons_of m12
  obtain ⟨a14, p14, rfl, m14⟩ := cons_of m13
  obtain ⟨a15, p15, rfl, m15⟩ := cons_of m14
  obtain ⟨a16, p16, rfl, m16⟩ := cons_of m15
  obtain ⟨a17, p17, rfl, m17⟩ := cons_of m16
  obtain ⟨a18, p18, rfl, m18⟩ := cons_of m17
  obtain ⟨a19, p19, rfl, m19⟩ := cons_of m18
  obtain ⟨a20, p20, rfl, m20⟩ := cons_of m19
  obtain ⟨a21, p21, rfl, m21⟩ := cons_of m20
  obtain ⟨a22, p22, rfl, m22⟩ := cons_of m21
  obtain ⟨a23, p23, rfl, m23⟩ := cons_of m22
  obtain ⟨a24, p24, rfl, m24⟩ := cons_of m23
  obtain ⟨a25, p25, rfl, m25⟩ := cons_of m24
  obtain ⟨a26, p26, rfl, m26⟩ := cons_of m25
  obtain ⟨a27, p27, rfl, m27⟩ := cons_of m26
  obtain ⟨a28, p28, rfl, m28⟩ := cons_of m27
  obtain ⟨a29, p29, rfl, m29⟩ := cons_of m28
  obtain ⟨a30, p30, rfl, m30⟩ := cons_of m29
  obtain ⟨a31, p31, rfl, m31⟩ := cons_of m30
  obtain rfl := List.eq_nil_of_length_eq_zero m31
  obtain ⟨b0, q0, rfl, n0⟩ := cons_of h2
  obtain ⟨b1, q1, rfl, n1⟩ := cons_of n0
  obtain ⟨b2, q2, rfl, n2⟩ := cons_of n1
  obtain ⟨b3, q3, rfl, n3⟩ := cons_of n2
  obtain ⟨b4, q4, rfl, n4⟩ := cons_of n3
  obtain ⟨b5, q5, rfl, n5⟩ := cons_of n4
  obtain ⟨b6, q6, rfl, n6⟩ := cons_of n5
  obtain ⟨b7, q7, rfl, n7⟩ := cons_of n6
  obtain ⟨b8, q8, rfl, n8⟩ := cons_of n7
  obtain ⟨b9, q9, rfl, n9⟩ := cons_of n8
  obtain ⟨b10, q10, rfl, n10⟩ := cons_of n9
  obtain ⟨b11, q11, rfl, n11⟩ := cons_of n10
  obtain ⟨b12, q12, rfl, n12⟩ := cons_of n11
  obtain ⟨b13, q13, rfl, n13⟩ := cons_of n12
  obtain ⟨b14, q14, rfl, n14⟩ := cons_of n13
  obtain ⟨b15, q15, rfl, n15⟩ := cons_of n14
  obtain ⟨b16, q16, rfl, n16⟩ := cons_of n15
  obtain ⟨b17, q17, rfl, n17⟩ := cons_of n16
  obtain ⟨b18, q18, rfl, n18⟩ := cons_of n17
  obtain ⟨b19, q19, rfl, n19⟩ := cons_of n18
  obtain ⟨b20, q20, rfl, n20⟩ := cons_of n19
  obtain ⟨b21, q21, rfl, n21⟩ := cons_of n20
  obtain ⟨b22, q22, rfl, n22⟩ := cons_of n21
  obtain ⟨b23, q23, rfl, n23⟩ := cons_of n22
  obtain ⟨b24, q24, rfl, n24⟩ := cons_of n23
  obtain ⟨b25, q25, rfl, n25⟩ := cons_of n24
  obtain ⟨b26, q26, rfl, n26⟩ := cons_of n25
  obtain ⟨b27, q27, rfl, n27⟩ := cons_of n26
  obtain ⟨b28, q28, rfl, n28⟩ := cons_of n27
  obtain ⟨b29, q29, rfl, n29⟩ := cons_of n28
  obtain ⟨b30, q30, rfl, n30⟩ := cons_of n29
  obtain ⟨b31, q31, rfl, n31⟩ := cons_of n30
  obtain rfl := List.eq_nil_of_length_eq_zero n31
  kernel_rfl
theorem built30 (h : THd) (k : HdOk h) (A : Option Addr) (n c : Nat) : Try.prog.built 30 [(0, .agg (hdV h).toArray), (1, .slice A n c)] = some (bkL h (.slice A n c)).toArray :=
  built30p h.ver h.time h.bits h.nonce h.prev h.root k.prev k.root A n c
theorem wpList_zero30 {ops : Array Oper} {rest : List Oper} {o : Oper} {a : Act} {w : World} {Q : Exit → Act → World → Prop} (hg : o.guard = none) (ho : o.op = .build 30 #[])
    (h : wpList Try.prog ops Q rest (a.put o.dst (.agg (bkL hd0 (.slice none 0 0)).toArray)) w) : wpList Try.prog ops Q (o :: rest) a w := by
  have e : Try.prog.built 30 ((#[] : Array (Nat × Operand)).map fun (i, x) => (i, a.eval x)).toList = some (bkL hd0 (.slice none 0 0)).toArray := by
    rw [← built30z]; simp
  exact wpList_build hg 30 _ ho (by rw [e]; rfl) (by rw [e]; exact h)
theorem wpList_build30 {ops : Array Oper} {rest : List Oper} {o : Oper} {a : Act} {w : World} {Q : Exit → Act → World → Prop} (hg : o.guard = none) (x0 x1 : Operand) (ho : o.op = .build 30 #[(0, x0), (1, x1)])
    (hd : THd) (k : HdOk hd) (A : Option Addr) (n c : Nat) (h0 : a.eval x0 = .agg (hdV hd).toArray) (h1 : a.eval x1 = .slice A n c)
    (h : wpList Try.prog ops Q rest (a.put o.dst (.agg (bkL hd (.slice A n c)).toArray)) w) : wpList Try.prog ops Q (o :: rest) a w := by
  have e : Try.prog.built 30 ((#[(0, x0), (1, x1)] : Array (Nat × Operand)).map fun (i, x) => (i, a.eval x)).toList = some (bkL hd (.slice A n c)).toArray := by
    rw [← built30 hd k A n c]
    simp [h0, h1]
  exact wpList_build hg 30 _ ho (by rw [e]; rfl) (by rw [e]; exact h)
theorem TxN.frT {w w' : World} {t : TTx} {i o : Value} {B b : Nat} {p : Option Nat} {s : Option (List (BitVec 8))} {T : TypeId} {us : List Value} (h : TxN w t i o) (hR : IsR w B p s) (hb : Blk w b T us) (h1 : T ≠ 5) (h2 : T ≠ 22) (h3 : T ≠ 69) (h4 : T ≠ 71) (hf : Fr w w' p (some b)) : TxN w' t i o := by
  obtain ⟨ib, ob, e1, e2, a, b', r⟩ := h
  exact ⟨ib, ob, e1, e2, a.fr hR hb h1 h2 h3 hf, b'.fr hR hb h1 h4 hf, r⟩
theorem TxsW.frT {w w' : World} {B b : Nat} {p : Option Nat} {s : Option (List (BitVec 8))} {T : TypeId} {us : List Value} (hR : IsR w B p s) (hb : Blk w b T us) (h1 : T ≠ 5) (h2 : T ≠ 22) (h3 : T ≠ 69) (h4 : T ≠ 71) (hf : Fr w w' p (some b)) : ∀ {ts : List TTx} {vs : List Value}, TxsW w ts vs → TxsW w' ts vs
  | [], _, h => h
  | t :: ts, _, ⟨i, o, r, e, hi, hr⟩ => ⟨i, o, r, e, hi.frT hR hb h1 h2 h3 h4 hf, TxsW.frT hR hb h1 h2 h3 h4 hf hr⟩
/-- What Parse answers of the bytes L: the error, the block. -/
def bP (L : List (BitVec 8)) : Int × TBk :=
  if 8192 < L.length then (3, bk0) else if L.length < 80 then (4, bk0) else
  if (rK (some (L.drop 80))).1 = 0 then (if endS (rK (some (L.drop 80))).2.2 = true then (0, ⟨hdOf (L.take 80), (rK (some (L.drop 80))).2.1⟩) else (4, bk0)) else ((rK (some (L.drop 80))).1, bk0)
def BPost (r : Int × TBk) (w : World) (e : Ending) (w' : World) : Prop :=
  ∃ A n cap, e = .returned (.tuple #[.agg (bkL r.2.hd (.slice A n cap)).toArray, .int .i64 r.1]) ∧ Below w.heap.size w w' ∧ (r.1 = 0 → ∃ rb vs, A = some ⟨rb, 0, none⟩ ∧ r.2.txs.length = n ∧ cap = n ∧ TxsW w' r.2.txs vs ∧ Blk w' rb 60 vs) ∧ (r.1 ≠ 0 → A = none ∧ n = 0 ∧ cap = 0 ∧ r.2 = bk0)
/-- Within Parse: the result's block is as it was made; nothing that was has changed. -/
structure BQ (w W : World) (g : Nat) (s : Option (List (BitVec 8))) : Prop where
  rd : IsR W (g + 1) (some g) s
  bel : Below w.heap.size w W
  rvb : Blk W w.heap.size 30 (bkL hd0 (.slice none 0 0))
  lt : g + 1 ≤ W.heap.size
  le : w.heap.size < g
theorem BQ.next {w W W' : World} {g : Nat} {s s' : Option (List (BitVec 8))} (h : BQ w W g s) (hi : IsR W' (g + 1) (some g) s') (hg : W.grownBy W' (some g)) : BQ w W' g s' :=
  ⟨hi, h.bel.grown hg h.bel.size (fun k e => by cases e; exact Nat.le_of_lt h.le), h.rvb.grown hg (fun e => by injection e with e; have := h.le; omega), Nat.le_trans h.lt hg.size, h.le⟩
theorem BQ.same {w W W' : World} {g : Nat} {s : Option (List (BitVec 8))} (h : BQ w W g s) (hb : Below W.heap.size W W') : BQ w W' g s :=
  h.next (h.rd.below hb h.lt) ⟨hb.os, hb.tape, hb.output, hb.size, fun k hk _ => hb.block k hk⟩
set_option maxHeartbeats 8000000 in
theorem bparse_any (A : Option Addr) (L : List (BitVec 8)) (cap : Nat) (w : World) (hR : Rd w w.heap.size A L) (hc : A = none → cap = 0) :
    Calls Try.prog 7 #[.slice A L.length cap] w (BPost (bP L) w) := by
  have hz := bkzero
  have hW : Below w.heap.size w (w.alloc (.cells (bkL hd0 (.slice none 0 0)).toArray 30)) := (Below.refl _ _).alloc (Nat.le_refl _) _
  have hB0 : Blk (w.alloc (.cells (bkL hd0 (.slice none 0 0)).toArray 30)) w.heap.size 30 (bkL hd0 (.slice none 0 0)) := by
    have := Blk.new w 30 (bkL hd0 (.slice none 0 0)).toArray
    rwa [List.toList_toArray] at this
  have HW := Lib.hid hW
  have HB0 := Lib.hid hB0
  obtain ⟨n, hn⟩ : ∃ n, n = L.length := ⟨_, rfl⟩
  by_cases hbig : 8192 < L.length
  · have eb : bP L = (3, bk0) := by unfold bP; rw [if_pos hbig]
    rw [eb, ← hn]
    have hb1 : (8192 : Int) < (n : Int) := by omega
    clear hR hc hW hB0 eb hn hbig
    go_enter Try.func7, Try.ntmps7
    go_wp2_with (first
      | (refine wpList_zero30 rfl rfl ?_)
      | (with_reducible refine wpList_store_mid rfl 30 (.tmp 2) (.tmp 11) rfl w.heap.size 0 (bkL hd0 (.slice none 0 0)).toArray rfl rfl (there_bk HB0.out hd0_ok hd0_ok) (info30v hd0_ok) (all_oneCell_toArray bkL_one) ?_))
    have hS := HB0.out.setCells (bkL hd0 (.slice none 0 0)) rfl
    have hbb := below_setCells (B := w.heap.size) (b := w.heap.size) (Nat.le_refl _) (bkL hd0 (.slice none 0 0)) 0 _ HW.out
    generalize (w.alloc (.cells (bkL hd0 (.slice none 0 0)).toArray 30)).setCells w.heap.size 0 (bkL hd0 (.slice none 0 0)) = W9 at hS hbb
    have hlv := run_loadVar_mid (P := Try.prog) W9 w.heap.size 0 30 _ _ hS.range Try.underlying30 rfl (info30 hd0_ok)
    exact bodyPost_ret (v := .tuple #[.agg (bkL hd0 (.slice none 0 0)).toArray, .int .i64 3]) (by simp [results, Try.results7, asAddr, hlv]) rfl ⟨none, 0, 0, rfl, hbb, fun h => absurd h (by decide), fun _ => ⟨rfl, rfl, rfl, rfl⟩⟩
  have hb1 : ¬ (8192 : Int) < (n : Int) := by omega
  have hl : L.length ≤ 100000000 := by omega
  have KO := open_any A L cap w.heap.size _ (hR.keep hW) hW.size hc (by omega)
  rw [← hn] at KO
  have KO := Lib.hid KO
  have HS : Hid (Short (some L) 100000000) := fun M e => by cases e; exact hl
  have HT : Hid (∀ g wq, IsR wq (g + 1) (some g) (some L) → g + 1 ≤ wq.heap.size → Calls Try.prog 16 #[ptr (some g), .int .i64 80] wq (NewPost (takeL (some L) 80) (cutS (some L) 80) (g + 1) (some g) wq)) := fun g wq h h2 => take_any (some g) (some L) 80 (g + 1) wq h h2 HS.out
  obtain ⟨X, hX⟩ : ∃ X, X = takeL (some L) 80 := ⟨_, rfl⟩
  obtain ⟨s1, hs1⟩ : ∃ s, s = cutS (some L) 80 := ⟨_, rfl⟩
  have HS1 : Hid (Short s1 100000000) := by rw [hs1]; exact cutS_short HS.out _
  have hX80 : X.length ≤ 80 := by
    rw [hX]
    by_cases hh : hasB (some L) 80 = true
    · rw [(cut_yes hh).1, List.length_take]; exact Nat.min_le_left _ _
    · rw [(cut_no (by simpa using hh)).1]; exact Nat.zero_le _
  rw [← hX, ← hs1] at HT
  have HXl := Lib.hid hX80
  have heb : bP L = if hgetE X = 0 then (if (rK s1).1 = 0 then (if endS (rK s1).2.2 = true then (0, ⟨hgetH X, (rK s1).2.1⟩) else (4, bk0)) else ((rK s1).1, bk0)) else (4, bk0) := by
    unfold bP
    rw [if_neg hbig]
    by_cases h80 : L.length < 80
    · have hh : hasB (some L) 80 = false := by simp [hasB]; omega
      have eX : X = [] := by rw [hX, (cut_no hh).1]
      rw [if_pos h80, if_neg (by rw [eX]; decide)]
    · have hh : hasB (some L) 80 = true := by simp [hasB]; omega
      obtain ⟨a, b, _⟩ := cut_yes hh
      have eX : X = L.take 80 := by rw [hX, a]; rfl
      have es : s1 = some (L.drop 80) := by rw [hs1, b]; rfl
      have l80 : X.length = 80 := by rw [eX, List.length_take]; omega
      have eE : hgetE X = 0 := by unfold hgetE; rw [if_pos l80]
      have eH : hgetH X = hdOf X := by unfold hgetH; rw [if_pos l80]
      rw [if_neg h80, if_pos eE, eH, es, eX]
  obtain ⟨rb, hrb⟩ : ∃ r, r = bP L := ⟨_, rfl⟩
  rw [← hrb] at heb ⊢
  have HE1 := Lib.hid (fun (_ : Unit) => heb)
  have HKo := Lib.hid (hgetH_ok X)
  have hE4 : hgetE X = 0 ∨ hgetE X = 4 := by unfold hgetE; split; exact .inl rfl; exact .inr rfl
  obtain ⟨eX, heX⟩ : ∃ e, e = hgetE X := ⟨_, rfl⟩
  obtain ⟨H, hH⟩ : ∃ h, h = hgetH X := ⟨_, rfl⟩
  have KH : Hid (∀ (A : Option Addr) (n c : Nat) (wq : World), X.length = n → Rd wq wq.heap.size A X → (A = none → c = 0) → Calls Try.prog 15 #[.slice A n c] wq fun e w' => e = .returned (.tuple #[.agg (hdV H).toArray, .int .i64 eX]) ∧ Below wq.heap.size wq w') := fun A n c wq e r z => by
    have := hget_any A X n c wq.heap.size wq e r (Nat.le_refl _) z (by have := HXl.out; omega)
    unfold HGetPost at this
    rw [← hH, ← heX] at this
    exact this
  rw [← heX, ← hH] at HE1
  rw [← hH] at HKo
  rw [← heX] at hE4
  rw [← hn]
  have hdz := hdzero
  clear hR hc hl hW hB0 hn hbig hX hs1 hX80 heb hrb heX hH
  go_enter Try.func7, Try.ntmps7
  go_upto_region 4 with (go_at_call 14; go_loud ((with_reducible refine KO.out.mono ?_); rintro e w1 ⟨g, rfl, hi, hg1, hg2, hb⟩; have HQ : Hid (BQ w w1 g (some L)) := (⟨hi, HW.out.trans (hb.mono HW.out.size), HB0.out.below hb HB0.out.lt, hg2, Nat.lt_of_lt_of_le HB0.out.lt hg1⟩ : BQ w w1 g (some L)); clear hi hg1 hg2 hb KO; dsimp only))
  clear hz HB0 HW
  go_upto_region 5 with (first
    | (go_at_call 16; go_loud ((with_reducible refine (HT.out g _ HQ.out.rd HQ.out.lt).mono ?_); rintro e w2 ⟨v, rfl, ho, hi, hg⟩; obtain ⟨A2, c2, rfl, hr2, _, _, hz2⟩ := ho.rd; have HQ2 := Lib.hid (HQ.out.next hi hg); have HR2 := Lib.hid hr2; have HZ2 := Lib.hid hz2; clear ho hi hg hr2 hz2 HT; dsimp only))
    | (go_at_call 15; go_loud ((with_reducible refine (KH.out A2 _ c2 _ rfl HR2.out HZ2.out).mono ?_); rintro e w3 ⟨rfl, hb3⟩; have HQ3 := Lib.hid (HQ2.out.same hb3); have HNew : Hid (Blk (w3.alloc (.cells (hdV hd0).toArray 27)) w3.heap.size 27 (hdV hd0)) := (by have := Blk.new w3 27 (hdV hd0).toArray; rwa [List.toList_toArray] at this); clear hb3 KH; dsimp only))
    | (with_reducible refine wpList_store_mid rfl 27 (.tmp 5) (.tmp 18) rfl w3.heap.size 0 (hdV H).toArray rfl rfl (there_hd HNew.out hd0_ok HKo.out) (hdinfov HKo.out) (all_oneCell_toArray (hdV_one _)) ?_))
  have hbw : Below w3.heap.size w3 ((w3.alloc (.cells (hdV hd0).toArray 27)).setCells w3.heap.size 0 (hdV H)) := below_setCells (Nat.le_refl _) (hdV H) 0 _ ((Below.refl _ _).alloc (Nat.le_refl _) _)
  have HQ4 := Lib.hid (HQ3.out.same hbw)
  have HH4 := Lib.hid (HNew.out.setCells (hdV H) (by rw [hdV_len HKo.out, hdV_len hd0_ok]))
  obtain ⟨hb, hhb⟩ : ∃ b, b = w3.heap.size := ⟨_, rfl⟩
  rw [← hhb] at HQ4 HH4 ⊢
  clear hbw HNew HQ3 HQ2 HR2 HZ2 HQ hhb hdz
  generalize ((w3.alloc (.cells (hdV hd0).toArray 27)).setCells hb 0 (hdV H)) = W4 at HQ4 HH4 ⊢
  rcases hE4 with rfl | rfl
  rotate_left
  · have heb := (HE1.out ()).trans (if_neg (by decide))
    have HE9 := Lib.hid (fun (_ : Unit) => heb)
    clear heb HE1
    go_wp2_with (first
      | (refine wpList_zero30 rfl rfl ?_)
      | (with_reducible refine wpList_store_mid rfl 30 (.tmp 2) (.tmp 22) rfl w.heap.size 0 (bkL hd0 (.slice none 0 0)).toArray rfl rfl (there_bk HQ4.out.rvb hd0_ok hd0_ok) (info30v hd0_ok) (all_oneCell_toArray bkL_one) ?_))
    have hS := HQ4.out.rvb.setCells (bkL hd0 (.slice none 0 0)) rfl
    have hbb := below_setCells (B := w.heap.size) (b := w.heap.size) (Nat.le_refl _) (bkL hd0 (.slice none 0 0)) 0 _ HQ4.out.bel
    generalize W4.setCells w.heap.size 0 (bkL hd0 (.slice none 0 0)) = W9 at hS hbb
    have hlv := run_loadVar_mid (P := Try.prog) W9 w.heap.size 0 30 _ _ hS.range Try.underlying30 rfl (info30 hd0_ok)
    rw [HE9.out ()]
    exact bodyPost_ret (v := .tuple #[.agg (bkL hd0 (.slice none 0 0)).toArray, .int .i64 4]) (by simp [results, Try.results7, asAddr, hlv]) rfl ⟨none, 0, 0, rfl, hbb, fun h => absurd h (show (4 : Int) ≠ 0 by decide), fun _ => ⟨rfl, rfl, rfl, rfl⟩⟩
  have heb := (HE1.out ()).trans (if_pos rfl)
  clear HE1
  have KK : Hid (∀ wq, IsR wq (g + 1) (some g) s1 → g + 1 ≤ wq.heap.size → Calls Try.prog 17 #[ptr (some g)] wq (KPost (rK s1) (g + 1) (some g) wq)) := fun wq h h2 => parsedTxs_any (some g) s1 (g + 1) wq h h2 HS1.out
  obtain ⟨rk, hrk⟩ : ∃ r, r = rK s1 := ⟨_, rfl⟩
  rw [← hrk] at KK heb
  have HE2 := Lib.hid (fun (_ : Unit) => heb)
  clear heb hrk
  go_upto_region 8 with (go_at_call 17; go_loud ((with_reducible refine (KK.out _ HQ4.out.rd HQ4.out.lt).mono ?_); rintro e w5 ⟨A5, n5, c5, ek, rfl, hr, hi, hg, hno, hok⟩; have HQ5 := Lib.hid (HQ4.out.next hi hg); have HH5 := Lib.hid (HH4.out.grown hg (HQ4.out.rd.ne HH4.out (by decide))); have Hr := Lib.hid hr; have Hok := Lib.hid hok; clear hr hi hg hno hok KK; dsimp only))
  by_cases hc : ek = 0
  rotate_left
  · have heb := (HE2.out ()).trans (if_neg (by rw [Hr.out]; exact hc))
    rw [Hr.out] at heb
    have HE9 := Lib.hid (fun (_ : Unit) => heb)
    clear HE2
    have hcb : (ek != 0) = true := by simpa using hc
    have Hc := Lib.hid hc
    clear heb hc
    go_wp2_with (first
      | (refine wpList_zero30 rfl rfl ?_)
      | (with_reducible refine wpList_store_mid rfl 30 (.tmp 2) (.tmp 31) rfl w.heap.size 0 (bkL hd0 (.slice none 0 0)).toArray rfl rfl (there_bk HQ5.out.rvb hd0_ok hd0_ok) (info30v hd0_ok) (all_oneCell_toArray bkL_one) ?_))
    have hS := HQ5.out.rvb.setCells (bkL hd0 (.slice none 0 0)) rfl
    have hbb := below_setCells (B := w.heap.size) (b := w.heap.size) (Nat.le_refl _) (bkL hd0 (.slice none 0 0)) 0 _ HQ5.out.bel
    generalize w5.setCells w.heap.size 0 (bkL hd0 (.slice none 0 0)) = W9 at hS hbb
    have hlv := run_loadVar_mid (P := Try.prog) W9 w.heap.size 0 30 _ _ hS.range Try.underlying30 rfl (info30 hd0_ok)
    rw [HE9.out ()]
    exact bodyPost_ret (v := .tuple #[.agg (bkL hd0 (.slice none 0 0)).toArray, .int .i64 ek]) (by simp [results, Try.results7, asAddr, hlv]) rfl ⟨none, 0, 0, rfl, hbb, fun h => absurd h Hc.out, fun _ => ⟨rfl, rfl, rfl, rfl⟩⟩
  subst hc
  obtain ⟨rb2, vs, rfl, hn5, hc5, htx, hbk, hle⟩ := Hok.out rfl
  subst c5
  have heb := (HE2.out ()).trans (if_pos Hr.out)
  clear HE2
  have KE := Lib.hid (end_any (some g) rk.2.2 (g + 1) w5 HQ5.out.rd)
  have HTx := Lib.hid htx
  have HBk := Lib.hid hbk
  have Hn5 := Lib.hid hn5
  clear htx hbk hle hn5
  cases hend : endS rk.2.2
  · rw [hend] at KE heb
    replace heb := heb.trans (if_neg (by decide))
    have HE9 := Lib.hid (fun (_ : Unit) => heb)
    clear heb hend
    go_wp2_with (first
      | (go_at_call 18; (with_reducible refine KE.out.mono ?_); rintro e w6 ⟨rfl, rfl⟩; dsimp only)
      | (refine wpList_zero30 rfl rfl ?_)
      | (with_reducible refine wpList_store_mid rfl 30 (.tmp 2) (.tmp 36) rfl w.heap.size 0 (bkL hd0 (.slice none 0 0)).toArray rfl rfl (there_bk HQ5.out.rvb hd0_ok hd0_ok) (info30v hd0_ok) (all_oneCell_toArray bkL_one) ?_))
    have hS := HQ5.out.rvb.setCells (bkL hd0 (.slice none 0 0)) rfl
    have hbb := below_setCells (B := w.heap.size) (b := w.heap.size) (Nat.le_refl _) (bkL hd0 (.slice none 0 0)) 0 _ HQ5.out.bel
    generalize w5.setCells w.heap.size 0 (bkL hd0 (.slice none 0 0)) = W9 at hS hbb
    have hlv := run_loadVar_mid (P := Try.prog) W9 w.heap.size 0 30 _ _ hS.range Try.underlying30 rfl (info30 hd0_ok)
    rw [HE9.out ()]
    exact bodyPost_ret (v := .tuple #[.agg (bkL hd0 (.slice none 0 0)).toArray, .int .i64 4]) (by simp [results, Try.results7, asAddr, hlv]) rfl ⟨none, 0, 0, rfl, hbb, fun h => absurd h (show (4 : Int) ≠ 0 by decide), fun _ => ⟨rfl, rfl, rfl, rfl⟩⟩
  · rw [hend] at KE heb
    replace heb := heb.trans (if_pos rfl)
    have HE9 := Lib.hid (fun (_ : Unit) => heb)
    clear heb hend
    go_wp2_with (first
      | (go_at_call 18; (with_reducible refine KE.out.mono ?_); rintro e w6 ⟨rfl, rfl⟩; dsimp only)
      | (with_reducible refine wpList_load_mid rfl 27 (.tmp 5) rfl hb 0 rfl (hdV H) _ HH5.out.range Try.underlying27 rfl (hdinfo HKo.out) ?_)
      | (with_reducible refine wpList_build30 rfl (.tmp 37) (.tmp 38) rfl H HKo.out (some ⟨rb2, 0, none⟩) n5 n5 rfl rfl ?_)
      | (with_reducible refine wpList_store_mid rfl 30 (.tmp 2) (.tmp 39) rfl w.heap.size 0 (bkL H (.slice (some ⟨rb2, 0, none⟩) n5 n5)).toArray rfl rfl (there_bk HQ5.out.rvb hd0_ok HKo.out) (info30v HKo.out) (all_oneCell_toArray bkL_one) ?_))
    have hS := HQ5.out.rvb.setCells (bkL H (.slice (some ⟨rb2, 0, none⟩) n5 n5)) (by rw [bkL_len HKo.out, bkL_len hd0_ok])
    have hbb := below_setCells (B := w.heap.size) (b := w.heap.size) (Nat.le_refl _) (bkL H (.slice (some ⟨rb2, 0, none⟩) n5 n5)) 0 _ HQ5.out.bel
    have hFr := Fr.stores w5 (some g) w.heap.size (bkL H (.slice (some ⟨rb2, 0, none⟩) n5 n5)) 0 w5 (Fr.refl _ _ _)
    have hT9 := TxsW.frT HQ5.out.rd HQ5.out.rvb (by decide) (by decide) (by decide) (by decide) hFr HTx.out
    have hB9 := HBk.out.fr hFr (HQ5.out.rd.ne HBk.out (by decide)) (fun e => by injection e with e; exact HBk.out.apart HQ5.out.rvb (by decide) e)
    generalize w5.setCells w.heap.size 0 (bkL H (.slice (some ⟨rb2, 0, none⟩) n5 n5)) = W9 at hS hbb hT9 hB9
    have hlv := run_loadVar_mid (P := Try.prog) W9 w.heap.size 0 30 _ _ hS.range Try.underlying30 rfl (info30 HKo.out)
    rw [HE9.out ()]
    exact bodyPost_ret (v := .tuple #[.agg (bkL H (.slice (some ⟨rb2, 0, none⟩) n5 n5)).toArray, .int .i64 0]) (by simp [results, Try.results7, asAddr, hlv]) rfl ⟨_, _, _, rfl, hbb, fun _ => ⟨rb2, vs, rfl, Hn5.out, rfl, hT9, hB9⟩, fun h => absurd rfl h⟩
open Go.RowKit
set_option linter.unusedVariables false
set_option linter.unusedSimpArgs false
set_option maxRecDepth 100000
theorem AnyBut.stronger {P : Program} {ops : Array Oper} {Q : Exit → Act → World → Prop} {md : Region.Mode} {S S' : World → Prop} {z : Nat} (hS : ∀ w, S' w → S w) :
    ∀ {n : Nat} {listed : Array Bool} {a : Act} {w : World}, AnyBut P md ops Q S' z n listed a w → AnyBut P md ops Q S z n listed a w
  | 0, _, _, _, h => h
  | n + 1, _, _, _, h => ⟨h.1, fun i hi => wpOp_mono (fun a' w' h' => ⟨fun hz => hS _ (h'.1 hz), AnyBut.stronger hS h'.2⟩) (h.2 i hi)⟩
theorem SB.trans {a b c : World} (h : SB a b) (k : SB b c) : SB a c := Below.trans h (Below.mono k h.size)
theorem SB.drew (w : World) : SB w w.drew := (Below.refl w.heap.size w).drew
/-- A list of transactions in memory. -/
def Txs (w : World) (B : Nat) (v : Value) (ts : List TTx) : Prop :=
  Row w B v ts.length 4 fun j b o => ∃ i u, w.rangeAt b o (tx4 (ts.getD j tx00) i u) ∧ TxOk w B (ts.getD j tx00) i u
theorem Txs.keep {w w' : World} {B B' : Nat} {v : Value} {ts : List TTx} (h : Txs w B v ts) (hb : Below B' w w') (hB : B ≤ B') : Txs w' B v ts :=
  Row.imp h (Nat.le_refl _) fun j b o _ hlt ⟨s, u, hc, hs⟩ => ⟨s, u, range_keep hc hb (Nat.lt_of_lt_of_le hlt hB), hs.keep hb hB⟩
theorem Txs.up {w : World} {B B' : Nat} {v : Value} {ts : List TTx} (h : Txs w B v ts) (hB : B ≤ B') : Txs w B' v ts :=
  Row.imp h hB fun j b o _ _ ⟨s, u, hc, hs⟩ => ⟨s, u, hc, hs.up hB⟩
/-- The first error of transactions. -/
def fE : List TTx → Int
  | [] => 0
  | t :: ts => if chk t = 0 then fE ts else chk t
def txB (t : TTx) : List (BitVec 8) := layB t (witd t)
/-- A block's bytes. -/
def blkB (x : TBk) : List (BitVec 8) := hdB x.hd ++ form x.txs.length ++ (x.txs.map txB).flatten
/-- What Put answers where there are no bytes. -/
def bE (x : TBk) : Int := if x.txs.length = 0 then 4 else if 32 < x.txs.length then 3 else if fE x.txs = 0 then (if 8192 < (blkB x).length then 3 else 0) else fE x.txs
def PutBPost (x : TBk) (w : World) (e : Ending) (w' : World) : Prop := (bE x = 0 → GavePost (blkB x) w e w') ∧ (bE x ≠ 0 → NonePost (bE x) w e w')
theorem at68 {hd : THd} {v : Value} (k : HdOk hd) : (bkL hd v)[68]? = some v := by
  unfold bkL
  rw [List.getElem?_append_right (by rw [hdV_len k]; exact Nat.le_refl _), hdV_len k]
  rfl
theorem range_hd {w : World} {b : Nat} {T : TypeId} {hd : THd} {v : Value} (h : Blk w b T (bkL hd v)) : w.rangeAt b 0 (hdV hd) := fun j u hj => by
  have hl := (List.getElem?_eq_some_iff.1 hj).1
  rw [Nat.zero_add]
  exact h.cell (by unfold bkL; rw [List.getElem?_append_left hl]; exact hj)
theorem fE_take {ts : List TTx} : ∀ (j : Nat), (∀ t ∈ ts.take j, chk t = 0) → (h : j < ts.length) → chk ts[j] ≠ 0 → fE ts = chk ts[j] := by
  induction ts with
  | nil => intro j _ h; cases h
  | cons t ts ih =>
    intro j hj h hne
    cases j with
    | zero => simp only [List.getElem_cons_zero] at hne ⊢; unfold fE; rw [if_neg hne]
    | succ j =>
      have h0 : chk t = 0 := hj t (by simp)
      unfold fE
      rw [if_pos h0]
      exact ih j (fun x hx => hj x (by simp [hx])) (by simpa using h) (by simpa using hne)
theorem fE_all {ts : List TTx} (h : ∀ t ∈ ts, chk t = 0) : fE ts = 0 := by
  induction ts with
  | nil => rfl
  | cons t ts ih =>
    unfold fE
    rw [if_pos (h t (by simp))]
    exact ih fun x hx => h x (by simp [hx])
theorem bput_small (x : TBk) (A : Option Addr) (n c : Nat) (w : World) (hn : n = x.txs.length) (k : HdOk x.hd) (h : n = 0 ∨ 32 < n) : Calls Try.prog 13 #[.agg (bkL x.hd (.slice A n c)).toArray] w (PutBPost x w) := by
  have hbx : Blk (w.alloc (.cells (bkL x.hd (.slice A n c)).toArray 30)) w.heap.size 30 (bkL x.hd (.slice A n c)) := by
    have := Blk.new w 30 (bkL x.hd (.slice A n c)).toArray
    rwa [List.toList_toArray] at this
  have d0 := hbx.cell (j := 68) (at68 k)
  have HW : Hid (Below w.heap.size w (w.alloc (.cells (bkL x.hd (.slice A n c)).toArray 30))) := (Below.refl _ _).alloc (Nat.le_refl _) _
  obtain ⟨V, hV⟩ : ∃ V, V = (bkL x.hd (.slice A n c)).toArray := ⟨_, rfl⟩
  rw [← hV] at d0 HW ⊢
  rcases h with h | h
  · have e : bE x = 4 := by unfold bE; rw [if_pos (by omega)]
    have HP : Hid (∀ e w', NonePost 4 w e w' → PutBPost x w e w') := fun e' w' h => by unfold PutBPost; rw [e]; exact ⟨fun h => absurd h (by decide), fun _ => h⟩
    subst h
    clear hbx hV e hn k
    go_enter Try.func13, Try.ntmps13
    go_wp2_with fail
    go_ret2
    exact HP.out _ _ ⟨rfl, HW.out⟩
  · have e : bE x = 3 := by unfold bE; rw [if_neg (by omega), if_pos (by omega)]
    have HP : Hid (∀ e w', NonePost 3 w e w' → PutBPost x w e w') := fun e' w' h => by unfold PutBPost; rw [e]; exact ⟨fun h => absurd h (by decide), fun _ => h⟩
    have h1 : ((n : Int) == 0) = false := by simp; omega
    have h2 : (32 : Int) < (n : Int) := by omega
    clear hbx hV e hn k h
    go_enter Try.func13, Try.ntmps13
    go_wp2_with fail
    go_ret2
    exact HP.out _ _ ⟨rfl, HW.out⟩
set_option maxHeartbeats 8000000 in
theorem bput_main (x : TBk) (v : Value) (w : World) (h : Txs w w.heap.size v x.txs) (k : HdOk x.hd) (hn0 : 0 < x.txs.length) (hn32 : x.txs.length ≤ 32) : Calls Try.prog 13 #[.agg (bkL x.hd v).toArray] w (PutBPost x w) := by
  have hh := h
  obtain ⟨A, c, b, o, rfl, hA, hr⟩ := Row.open h
  obtain ⟨n, hn⟩ : ∃ n, n = x.txs.length := ⟨_, rfl⟩
  obtain rfl := hA hn0
  have hcl : n ≤ c ∧ c ≤ 9223372036854775807 := by obtain ⟨_, _, e, h1, h2, _⟩ := hh; cases e; exact ⟨by omega, h2⟩
  obtain ⟨hd, hhd⟩ : ∃ h, h = x.hd := ⟨_, rfl⟩
  obtain ⟨A, hA⟩ : ∃ A : Option Addr, A = some ⟨b, o, none⟩ := ⟨_, rfl⟩
  have hbx : Blk (w.alloc (.cells (bkL hd (.slice A n c)).toArray 30)) w.heap.size 30 (bkL hd (.slice A n c)) := by
    have := Blk.new w 30 (bkL hd (.slice A n c)).toArray
    rwa [List.toList_toArray] at this
  have HBx := Lib.hid hbx
  have HW : Hid (Below w.heap.size w (w.alloc (.cells (bkL hd (.slice A n c)).toArray 30))) := (Below.refl _ _).alloc (Nat.le_refl _) _
  have HKo : Hid (HdOk hd) := by rw [hhd]; exact k
  have KH : Hid (∀ wq, Calls Try.prog 29 #[.agg (hdV hd).toArray] wq (LaidPost (hdB hd) wq)) := fun wq => hput_any hd HKo.out wq
  have h80 := hdB_len HKo.out
  have KP : Hid (∀ (A : Option Addr) (cp : Nat) (wq : World), Rd wq wq.heap.size A (hdB hd) → Calls Try.prog 28 #[.slice A 80 cp, .int .u64 (n : Int)] wq (LaidPost (hdB hd ++ form n) wq)) := fun A cp wq hq => by
    have := put_any A (hdB hd) cp wq.heap.size n wq hq (Nat.le_refl _) (by omega)
    rw [h80] at this
    exact this
  have HR := Lib.hid hr
  have HN := Lib.hid hn
  have Hhd := Lib.hid hhd
  have HAe := Lib.hid hA
  have Hcl := Lib.hid hcl
  have hb0 : ((n : Int) == 0) = false := by simp; omega
  have hb32 : ¬ (32 : Int) < (n : Int) := by omega
  have hnn : n ≤ 32 := by omega
  have HN0 : Hid (0 < n) := show 0 < n by omega
  rw [← hhd, ← hn, ← hA]
  have d0 := hbx.cell (j := 68) (at68 HKo.out)
  clear hh h hr hbx hA hn hhd k hcl hn0 hn32
  obtain ⟨V, hV⟩ : ∃ V, V = (bkL hd (.slice A n c)).toArray := ⟨_, rfl⟩
  rw [← hV] at d0 HW HBx ⊢
  clear hV
  go_enter Try.func13, Try.ntmps13
  go_upto_region 5 with fail
  generalize (w.alloc (.cells V 30)) = W0 at d0 HW HBx ⊢
  generalize hWd : W0.drew = Wd
  have HD0 : Hid (SB W0 Wd) := (hWd ▸ SB.drew W0 : SB W0 Wd)
  refine wp_region_but (z := 999) (SB Wd) (by kernel_rfl) ?_
  rw [hWd]
  have hS : SB Wd Wd := SB.refl Wd
  clear hWd
  have HSd : Hid (SB Wd Wd) := hS
  refine AnyBut.takeE (i := 0) (v := ?_) rfl (by kernel_rfl) (by kernel_rfl) (by kernel_rfl) (by kernel_rfl) (fun _ _ _ h => h) (Or.inl ⟨by rfl, ?_⟩) hS ?_
  rotate_left
  · (intro wq hq; go_simp; try with_reducible rfl)
  try simp only [Act.put, List.setIfInBounds_toArray, List.set_cons_zero, List.set_cons_succ, List.getElem_toArray, List.getElem_cons_zero, List.getElem_cons_succ]
  refine AnyBut.takeE (i := 1) (v := .agg (hdV hd).toArray) rfl (by kernel_rfl) (by kernel_rfl) (by kernel_rfl) (by kernel_rfl) (fun _ _ _ h => h) ?_ hS ?_
  · exact yieldsIf_load_mid (by rfl) 27 (.tmp 17) rfl w.heap.size 0 rfl (hdV hd) _ (fun wq hq => by have hbq := HBx.out.below (show Below W0.heap.size W0 wq from SB.trans HD0.out hq) HBx.out.lt; exact range_hd hbq) Try.underlying27 rfl (hdinfo HKo.out)
  try simp only [Act.put, List.setIfInBounds_toArray, List.set_cons_zero, List.set_cons_succ, List.getElem_toArray, List.getElem_cons_zero, List.getElem_cons_succ]
  refine AnyBut.takeE (i := 3) (v := ?_) rfl (by kernel_rfl) (by kernel_rfl) (by kernel_rfl) (by kernel_rfl) (fun _ _ _ h => h) (Or.inl ⟨by rfl, ?_⟩) hS ?_
  rotate_left
  · (intro wq hq; go_simp; try with_reducible rfl)
  try simp only [Act.put, List.setIfInBounds_toArray, List.set_cons_zero, List.set_cons_succ, List.getElem_toArray, List.getElem_cons_zero, List.getElem_cons_succ]
  refine AnyBut.takeE (i := 4) (v := .slice A n c) rfl (by kernel_rfl) (by kernel_rfl) (by kernel_rfl) (by kernel_rfl) (fun _ _ _ h => h) (Or.inl ⟨by rfl, ?_⟩) hS ?_
  · intro wq hq
    have hbq := HBx.out.below (show Below W0.heap.size W0 wq from SB.trans HD0.out hq) HBx.out.lt
    have dq := hbq.cell (j := 68) (at68 HKo.out)
    go_simp
  try simp only [Act.put, List.setIfInBounds_toArray, List.set_cons_zero, List.set_cons_succ, List.getElem_toArray, List.getElem_cons_zero, List.getElem_cons_succ]
  refine AnyBut.takeE (i := 5) (v := ?_) rfl (by kernel_rfl) (by kernel_rfl) (by kernel_rfl) (by kernel_rfl) (fun _ _ _ h => h) (Or.inl ⟨by rfl, ?_⟩) hS ?_
  rotate_left
  · (intro wq hq; go_simp; try with_reducible rfl)
  try simp only [Act.put, List.setIfInBounds_toArray, List.set_cons_zero, List.set_cons_succ, List.getElem_toArray, List.getElem_cons_zero, List.getElem_cons_succ]
  refine AnyBut.takeE (i := 6) (v := .int .u64 (n : Int)) rfl (by kernel_rfl) (by kernel_rfl) (by kernel_rfl) (by kernel_rfl) (fun _ _ _ h => h) (Or.inl ⟨by rfl, ?_⟩) hS ?_
  · intro wq hq
    have hwu : IntKind.u64.wrap (n : Int) = (n : Int) := by rw [IntKind.wrap_u64]; omega
    go_simp
  try simp only [Act.put, List.setIfInBounds_toArray, List.set_cons_zero, List.set_cons_succ, List.getElem_toArray, List.getElem_cons_zero, List.getElem_cons_succ]
  refine AnyBut.gone (i := 2) (by kernel_rfl) rfl (by rfl) (fun K hK => ?_)
  go_simp
  (with_reducible refine (KH.out _).mono ?_)
  rintro e w1 ⟨v, rfl, ho, hb⟩
  obtain ⟨A1, c1, rfl, hr1, _⟩ := slice_form ho
  have HO1 := Lib.hid ho
  have KP1 := Lib.hid (KP.out A1 c1 _ hr1)
  clear ho hr1
  have hS1 : SB Wd w1 := SB.next hS hb
  have HS1 := Lib.hid hS1
  have HBl1 := Lib.hid hb
  clear hb
  dsimp only
  refine hK _ _ (fun _ => hS1) ?_
  clear hK K hS
  try simp only [Act.put, List.setIfInBounds_toArray, List.set_cons_zero, List.set_cons_succ, List.getElem_toArray, List.getElem_cons_zero, List.getElem_cons_succ]
  refine AnyBut.stronger (S' := SB w1) (fun _ h => Below.trans hS1 (Below.mono h hS1.size)) ?_
  clear hS1
  have hS : SB w1 w1 := SB.refl w1
  have HX1 : Hid (SB Wd w1) := HS1.out
  refine AnyBut.gone (i := 7) (by kernel_rfl) rfl (by rfl) (fun K hK => ?_)
  go_simp
  (with_reducible refine (KP1.out).mono ?_)
  rintro e w2 ⟨v2, rfl, ho2, hb⟩
  have HO2 := Lib.hid ho2
  clear ho2
  have hS2 : SB w1 w2 := SB.next hS hb
  have HS2 := Lib.hid hS2
  have HBl2 := Lib.hid hb
  clear hb
  dsimp only
  refine hK _ _ (fun _ => hS2) ?_
  clear hK K hS
  try simp only [Act.put, List.setIfInBounds_toArray, List.set_cons_zero, List.set_cons_succ, List.getElem_toArray, List.getElem_cons_zero, List.getElem_cons_succ]
  refine AnyBut.stronger (S' := SB w2) (fun _ h => Below.trans hS2 (Below.mono h hS2.size)) ?_
  clear hS2
  have hS : SB w2 w2 := SB.refl w2
  have HX2 : Hid (SB Wd w2) := SB.trans HX1.out HS2.out
  refine AnyBut.gone (i := 8) (by kernel_rfl) rfl (by rfl) (fun K hK => ?_)
  go_simp
  refine hK _ _ (fun _ => hS) ?_
  clear hK K
  refine AnyBut.done (by kernel_rfl) ?_ _
  try dsimp only [Exit.then]
  clear hS
  have HZ2 : Hid (SB W0 w2) := SB.trans HD0.out HX2.out
  have HB2 : Hid (Below w.heap.size w w2) := HW.out.trans (Below.mono HZ2.out HW.out.size)
  have HOb : Hid (OB w2 w.heap.size v2 (hdB hd ++ form n)) := HO2.out.base (Nat.le_trans HW.out.size (Nat.le_trans (SB.size HD0.out) (SB.size HX1.out)))
  have hbx2 := HBx.out.below (show Below W0.heap.size W0 w2 from HZ2.out) HBx.out.lt
  have HBx2 := Lib.hid hbx2
  have d0 := hbx2.cell (j := 68) (at68 HKo.out)
  have H80 := Lib.hid h80
  have HC0 : Hid (∀ t ∈ x.txs.take 0, chk t = 0) := fun t ht => by simp at ht
  clear HX1 HX2 HS1 HS2 HBl1 HBl2 HSd HO1 HO2 KP1 HD0 KP KH hbx2 h80
  go_upto_region 7 with fail
  clear d0
  go_loopw [28, 4] (fun iv bv wq => ∃ (j : Nat), j ≤ n ∧ iv = .int .i64 (j : Int) ∧ Below w.heap.size w wq ∧ OB wq w.heap.size bv ((hdB hd ++ form n) ++ ((x.txs.take j).map txB).flatten) ∧ ∀ t ∈ x.txs.take j, chk t = 0) (fun iv _ _ => n - (intOf iv).toNat)
  case atStart => exact ⟨0, Nat.zero_le _, rfl, HB2.out, by simpa using HOb.out, HC0.out⟩
  case round =>
    obtain ⟨j, hj, rfl, hbj, hoj, hcj⟩ := hrel
    have hlen : ((hdB hd ++ form n) ++ ((x.txs.take j).map txB).flatten).length ≤ 100 + 32 * 100000 := by
      have h1 : ((x.txs.take j).map txB).flatten.length ≤ (x.txs.take j).length * 100000 := flat_le txB 100000 _ fun t ht => by
        have hm := List.mem_of_mem_take ht
        obtain ⟨k, hk, rfl⟩ := List.getElem_of_mem hm
        obtain ⟨_, i, u, _, hok⟩ := HR.out k hk
        have e : x.txs.getD k tx00 = x.txs[k] := by simp [List.getD, hk]
        rw [e] at hok
        exact lay_len _ hok (hcj _ ht)
      have h2 : (x.txs.take j).length * 100000 ≤ 32 * 100000 := Nat.mul_le_mul (by rw [List.length_take]; omega) (Nat.le_refl _)
      have h3 := form_len9 n
      rw [List.length_append, List.length_append, H80.out]
      omega
    by_cases hlt : j < n
    · have hlt' : (j : Int) < (n : Int) := by omega
      have h0j : (0 : Int) ≤ (j : Int) := by omega
      have hjx : j < x.txs.length := by rw [← HN.out]; exact hlt
      obtain ⟨hbl, i, u, hrg, hok⟩ := HR.out j hjx
      obtain ⟨t, ht⟩ : ∃ t, t = x.txs[j] := ⟨_, rfl⟩
      have et : x.txs.getD j tx00 = t := by rw [ht]; simp [List.getD, hjx]
      rw [et] at hrg hok
      have hok0 := hok
      obtain ⟨⟨Ai, ci, rfl, _⟩, ⟨Ao, co, rfl, _⟩, _, _⟩ := hok
      have hrj := range_keep hrg hbj hbl
      have c0 := hrj 0 _ rfl
      have c1 := hrj 1 _ rfl
      have c2 := hrj 2 _ rfl
      have c3 := hrj 3 _ rfl
      rw [Nat.add_zero] at c0
      have hAj := HAe.out
      subst hAj
      have HO : Hid (∀ wq, Below w.heap.size w wq → TxOk wq wq.heap.size t (.slice Ai t.ins.length ci) (.slice Ao t.outs.length co)) := fun wq hq => (hok0.keep hq (Nat.le_refl _)).up hq.size
      have HBj := Lib.hid hbj
      have HOj := Lib.hid hoj
      have HCj := Lib.hid hcj
      have HLj := Lib.hid hlen
      have Ht := Lib.hid ht
      have Hjx := Lib.hid hjx
      clear hbj hoj hcj hlen ht et hrg hrj hok0 hbl HOb HBx2 HC0
      obtain ⟨A4, c4, rfl, hr4, hz4⟩ := slice_form HOj.out
      obtain ⟨m, hm⟩ : ∃ m, m = ((hdB hd ++ form n) ++ ((x.txs.take j).map txB).flatten).length := ⟨_, rfl⟩
      have HM := Lib.hid hm
      rw [← hm] at HOj ⊢
      clear hm hr4 hz4
      have hbw : Below wr.heap.size wr (wr.alloc (.cells #[.int .u32 (t.ver : Int), .slice Ai t.ins.length ci, .slice Ao t.outs.length co, .int .u32 (t.lock : Int)] 60)) := (Below.refl _ _).alloc (Nat.le_refl _) _
      have HBA : Hid (Below w.heap.size w (wr.alloc (.cells #[.int .u32 (t.ver : Int), .slice Ai t.ins.length ci, .slice Ao t.outs.length co, .int .u32 (t.lock : Int)] 60))) := HBj.out.trans (hbw.mono HBj.out.size)
      have HBw := Lib.hid hbw
      clear hbw
      by_cases hck : chk t = 0
      · have KP := Put_ok t _ _ (.slice none 0 0) [] _ (HO.out _ HBA.out) (Sl.nil _ _) (by simp) hck
        rw [List.nil_append] at KP
        unfold txV at KP
        have KP := Lib.hid KP
        have HTl : Hid ((txB t).length ≤ 100000) := lay_len _ (HO.out _ HBA.out) hck
        have Hck := Lib.hid hck
        clear hck
        go_upto_region 10 with (go_at_call 30; go_loud ((with_reducible refine KP.out.mono ?_); rintro e w4 ⟨A5, c5, rfl, ho5, hb5⟩; have HO5 := Lib.hid ho5; have HB5 := Lib.hid hb5; clear ho5 hb5 KP; dsimp only))
        have HW4 : Hid (Below w.heap.size w w4) := HBA.out.trans (HB5.out.mono HBA.out.size)
        have HOj4 : Hid (OB w4 w.heap.size (.slice A4 m c4) ((hdB hd ++ form n) ++ ((x.txs.take j).map txB).flatten)) := (HOj.out.below (B' := 0) HBw.out).below (B' := 0) HB5.out
        have HS5 : Hid (Src22 w4 A5 (layB t (witd t)).length (vbs (layB t (witd t)))) := by obtain ⟨A', c', e, hr, _⟩ := slice_form HO5.out; cases e; exact src_of_rd hr
        have HZ5 : Hid (A5 = none → c5 = 0) := by obtain ⟨A', c', e, _, hz⟩ := slice_form HO5.out; cases e; exact hz
        clear c0 c1 c2 c3
        obtain ⟨m5, hm5⟩ : ∃ m, m = (layB t (witd t)).length := ⟨_, rfl⟩
        have HM5 := Lib.hid hm5
        rw [← hm5]
        clear hm5
        have hj32 : (j : Int) ≤ 32 := by omega
        go_upto_region 13 with (refine wpList_push (o := ⟨some 42, _, _, _, _, _⟩) rfl (.tmp 40) (.tmp 41) rfl rfl w.heap.size _ _ (layB t (witd t)) rfl HOj4.out A5 m5 c5 rfl HM5.out HS5.out HZ5.out (by have := HLj.out; have := HTl.out; unfold txB at this; omega) HW4.out HW4.out.size (Nat.le_refl _) ?_; intro v5 w5 h1 h2 h3; have HO6 := Lib.hid h1; have HW5 := Lib.hid h2; clear h1 h2 h3)
        go_wp2_with fail
        go_roundw
        case rel =>
          refine ⟨j + 1, by omega, by go_num, HW5.out, ?_, ?_⟩
          · have e : ((hdB hd ++ form n) ++ ((x.txs.take (j + 1)).map txB).flatten) = ((hdB hd ++ form n) ++ ((x.txs.take j).map txB).flatten) ++ layB t (witd t) := by
              rw [List.take_succ_eq_append_getElem Hjx.out, ← Ht.out, List.map_append, List.flatten_append, List.append_assoc, List.append_assoc]
              simp [txB]
            rw [e]; exact HO6.out
          · intro s hs
            rw [List.take_succ_eq_append_getElem Hjx.out, ← Ht.out] at hs
            rcases List.mem_append.1 hs with hs | hs
            · exact HCj.out s hs
            · simp at hs; subst hs; exact Hck.out
        case measure => simp [intOf]; omega
      · have KP := Put_no t _ _ (.slice none 0 0) _ (HO.out _ HBA.out) hck
        unfold txV at KP
        have KP := Lib.hid KP
        obtain ⟨ce, hce⟩ : ∃ c, c = chk t := ⟨_, rfl⟩
        have hcb : (ce != 0) = true := by rw [hce]; simpa using hck
        have Hpost : Hid (∀ e w', NonePost ce w e w' → PutBPost x w e w') := fun e w' h => by
          have hf : fE x.txs = ce := by rw [hce, Ht.out]; exact fE_take j HCj.out Hjx.out (by rw [← Ht.out]; exact hck)
          have hb : bE x = ce := by
            unfold bE
            have := HN.out
            rw [if_neg (by omega), if_neg (by omega), hf, if_neg (by rw [hce]; exact hck)]
          unfold PutBPost
          rw [hb]
          exact ⟨fun h => absurd h (by rw [hce]; exact hck), fun _ => h⟩
        rw [← hce] at KP
        clear hck hce
        go_wp2_with (go_at_call 30; go_loud ((with_reducible refine KP.out.mono ?_); rintro e w4 ⟨rfl, hb5⟩; have HB5 := Lib.hid hb5; clear hb5 KP; dsimp only))
        go_ret2
        exact Hpost.out _ _ ⟨rfl, HBA.out.trans (HB5.out.mono HBA.out.size)⟩
    · obtain rfl : j = n := by omega
      have hlt' : ¬ (j : Int) < (j : Int) := by omega
      rw [List.take_of_length_le (by rw [← HN.out]; exact Nat.le_refl _)] at hoj hcj hlen
      have hfa := fE_all hcj
      have hbk : blkB x = (hdB hd ++ form j) ++ (x.txs.map txB).flatten := by unfold blkB; rw [← Hhd.out, ← HN.out]
      rw [← hbk] at hoj hlen
      have hbE : bE x = if 8192 < (blkB x).length then 3 else 0 := by
        unfold bE
        have := HN.out
        have := HN0.out
        rw [if_neg (by omega), if_neg (by omega), if_pos hfa]
      obtain ⟨A4, c4, rfl, _, _⟩ := slice_form hoj
      by_cases hbig : 8192 < (blkB x).length
      · rw [if_pos hbig] at hbE
        have Hpost : Hid (∀ e w', NonePost 3 w e w' → PutBPost x w e w') := fun e w' h => by unfold PutBPost; rw [hbE]; exact ⟨fun h => absurd h (by decide), fun _ => h⟩
        obtain ⟨m, hm⟩ : ∃ m, m = (blkB x).length := ⟨_, rfl⟩
        have hb1 : (8192 : Int) < (m : Int) := by omega
        have HBj := Lib.hid hbj
        rw [← hm]
        clear hbj hoj hcj hlen hfa hbk hbE hbig hm
        go_wp2_with fail
        go_ret2
        exact Hpost.out _ _ ⟨rfl, HBj.out⟩
      · rw [if_neg hbig] at hbE
        have Hpost : Hid (∀ e w', GavePost (blkB x) w e w' → PutBPost x w e w') := fun e w' h => by unfold PutBPost; rw [hbE]; exact ⟨fun _ => h, fun h => absurd rfl h⟩
        have HOj := Lib.hid hoj
        obtain ⟨m, hm⟩ : ∃ m, m = (blkB x).length := ⟨_, rfl⟩
        have hb1 : ¬ (8192 : Int) < (m : Int) := by omega
        have HBj := Lib.hid hbj
        have HM := Lib.hid hm
        rw [← hm]
        clear hbj hoj hcj hlen hfa hbk hbE hbig hm
        go_wp2_with fail
        go_ret2
        exact Hpost.out _ _ ⟨A4, c4, by first | rfl | (rw [← HM.out]; rfl), HOj.out, HBj.out⟩
theorem bkput_any (x : TBk) (v : Value) (w : World) (h : Txs w w.heap.size v x.txs) (k : HdOk x.hd) : Calls Try.prog 13 #[.agg (bkL x.hd v).toArray] w (PutBPost x w) := by
  by_cases hs : x.txs.length = 0 ∨ 32 < x.txs.length
  · obtain ⟨A, c, rfl, _⟩ := id h
    exact bput_small x A _ c w rfl k hs
  · exact bput_main x v w h k (by omega) (by omega)
open Go.RowKit
set_option linter.unusedVariables false
set_option linter.unusedSimpArgs false
set_option maxRecDepth 100000
set_option maxHeartbeats 4000000 in
theorem eqf_texts (v u : Value) (xs ys : List (List (BitVec 8))) (w : World) (h1 : Ws w w.heap.size v xs) (h2 : Ws w w.heap.size u ys) :
    Calls Try.prog 64 #[v, u, .func (.func 63) #[] #[]] w (EqPost (decide (xs = ys)) w) := by
  obtain ⟨A, c, b, o, rfl, hA, hr⟩ := Row.open h1
  obtain ⟨A2, c2, b2, o2, rfl, hA2, hr2⟩ := Row.open h2
  obtain ⟨_, _, e1, hm1, hm2, _⟩ := h1
  cases e1
  have HR := Lib.hid hr
  have HR2 := Lib.hid hr2
  have HA := Lib.hid hA
  have HA2 := Lib.hid hA2
  obtain ⟨lx, hlx⟩ : ∃ n, n = xs.length := ⟨_, rfl⟩
  obtain ⟨ly, hly⟩ : ∃ n, n = ys.length := ⟨_, rfl⟩
  have Hlx := Lib.hid hlx
  have Hly := Lib.hid hly
  have hlm : lx ≤ 9223372036854775807 := by omega
  have Hb0 := Lib.hid (Below.refl w.heap.size w)
  rw [← hlx, ← hly]
  clear hr hr2 hA hA2 hm1 hm2 h2
  by_cases hl : lx = ly
  · have hly2 : ly = ys.length := hly
    clear hly
    subst hl
    clear hlx hly2
    go_enter Try.func64, Try.ntmps64
    go_wp2_with fail
    go_loopw [17] (fun iv wq => ∃ i : Nat, i ≤ lx ∧ iv = .int .i64 (i : Int) ∧ xs.take i = ys.take i ∧ Below w.heap.size w wq) (fun iv _ => lx - (intOf iv).toNat)
    case atStart => exact ⟨0, Nat.zero_le _, rfl, rfl, Hb0.out⟩
    case round =>
      obtain ⟨i, hi, rfl, he, hb⟩ := hrel
      have HE := Lib.hid he
      clear he
      by_cases hlt : i < lx
      · have hlt' : (i : Int) < (lx : Int) := by omega
        obtain rfl := HA.out (by rw [← Hlx.out]; omega)
        obtain rfl := HA2.out (by rw [← Hly.out]; omega)
        obtain ⟨hbl, z1, cu, hs⟩ := HR.out i (by rw [← Hlx.out]; exact hlt)
        obtain ⟨hbl2, z2, cu2, hs2⟩ := HR2.out i (by rw [← Hly.out]; exact hlt)
        have hst := take_eq_succ xs ys [] i (by rw [← Hlx.out]; exact hlt) (by rw [← Hly.out]; exact hlt) HE.out
        have hne := ne_at xs ys [] i
        rw [Nat.mul_one] at cu cu2
        have c0 : wr.cell? ⟨b, o + i, none⟩ = some z1 := by rw [hb.cell (p := ⟨b, o + i, none⟩) hbl]; exact cu
        have c1 : wr.cell? ⟨b2, o2 + i, none⟩ = some z2 := by rw [hb.cell (p := ⟨b2, o2 + i, none⟩) hbl2]; exact cu2
        have hs1 := (hs.keep hb (Nat.le_refl _)).up hb.size
        have hs21 := (hs2.keep hb (Nat.le_refl _)).up hb.size
        generalize xs.getD i [] = x at hs hs1 hst hne
        generalize ys.getD i [] = y at hs2 hs21 hst hne
        have Hb := Lib.hid hb
        have KK : Hid (∀ wq, Below wr.heap.size wr wq → Calls Try.prog 63 #[z1, z2] wq (EqPost (decide (x = y)) wq)) := fun wq hq => sameText_any z1 z2 x y wq ((hs1.keep hq (Nat.le_refl _)).up hq.size) ((hs21.keep hq (Nat.le_refl _)).up hq.size)
        obtain ⟨Ax, cx, rfl, _⟩ := hs1
        obtain ⟨Ay, cy, rfl, _⟩ := hs21
        have K := KK
        by_cases hxy : x = y
        · have HT := Lib.hid (hst.2 hxy)
          rw [show decide (x = y) = true by simpa using hxy] at K
          clear hst hne hxy hbl hbl2 hb cu cu2 hs hs2
          go_wp2_with (go_at_call 63; (with_reducible refine (K.out _ (Below.refl _ _)).mono ?_); rintro e w2 ⟨rfl, hb2⟩; dsimp only)
          go_roundw
          case rel => exact ⟨i + 1, by omega, by go_num, HT.out, Hb.out.trans (hb2.mono Hb.out.size)⟩
          case measure => simp [intOf]; omega
        · have HT : Hid (decide (xs = ys) = false) := show decide (xs = ys) = false by simpa using hne hxy
          rw [show decide (x = y) = false by simpa using hxy] at K
          clear hst hne hxy hbl hbl2 hb cu cu2 hs hs2
          go_wp2_with (go_at_call 63; (with_reducible refine (K.out _ (Below.refl _ _)).mono ?_); rintro e w2 ⟨rfl, hb2⟩; dsimp only)
          go_ret
          exact ⟨by rw [HT.out]; rfl, Hb.out.trans (hb2.mono Hb.out.size)⟩
      · obtain rfl : i = lx := by omega
        have hlt' : ¬ (i : Int) < (i : Int) := by omega
        have HT : Hid (decide (xs = ys) = true) := show decide (xs = ys) = true by
          have := HE.out
          rw [List.take_of_length_le (by rw [← Hlx.out]; exact Nat.le_refl _), List.take_of_length_le (by rw [← Hly.out]; exact Nat.le_refl _)] at this
          simpa using this
        go_wp2_with fail
        go_ret
        exact ⟨by rw [HT.out]; rfl, hb⟩
  · have e1 : ((lx : Int) != (ly : Int)) = true := by simp; omega
    have HT : Hid (decide (xs = ys) = false) := show decide (xs = ys) = false by
      have : xs ≠ ys := fun e => hl (by rw [hlx, hly, e])
      simpa using this
    clear hl hlx hly
    go_enter Try.func64, Try.ntmps64
    go_wp2_with fail
    go_ret
    exact ⟨by rw [HT.out]; rfl, Hb0.out⟩
open Go.RowKit
set_option linter.unusedVariables false
set_option linter.unusedSimpArgs false
set_option maxRecDepth 100000
def prevV (X : List (BitVec 8)) (a : Nat) : List Value := vbs X ++ [.int .u32 (a : Int)]
theorem part_tx (X : List (BitVec 8)) (a : Nat) (hX : X.length = 32) (w : World) : (part 25 (prevV X a).toArray 0).run Try.prog w = .ok (.agg (vbs X).toArray) w := by
  have h1 : (isAgg 25).run Try.prog w = .ok true w := by kernel_rfl
  have h2 : (sizeOf 25).run Try.prog w = .ok 32 w := by kernel_rfl
  have hl : (vbs X).length = 32 := by rw [vbs_len, hX]
  simp [part, h1, h2, prevV]
  rw [List.take_append_of_le_length (by omega), List.take_of_length_le (by omega)]
theorem part_ix (X : List (BitVec 8)) (a : Nat) (hX : X.length = 32) (w : World) : (part 23 (prevV X a).toArray 32).run Try.prog w = .ok (.int .u32 (a : Int)) w := by
  have h1 : (isAgg 23).run Try.prog w = .ok false w := by kernel_rfl
  have hl : (vbs X).length = 32 := by rw [vbs_len, hX]
  simp [part, h1, prevV, hl]
theorem eql57 (X Y : List (BitVec 8)) (a b : Nat) (hX : X.length = 32) (hY : Y.length = 32) (w : World) :
    (binOp .eql 66 (.agg (prevV X a).toArray) (.agg (prevV Y b).toArray)).run Try.prog w = .ok (.bool (decide (X = Y) && decide (a = b))) w := by
  have hS : Try.prog.underlying 66 = some (.struct (Try.prog.fieldsOf 66)) := by kernel_rfl
  have hp : Try.prog.stoodInHeld 66 = false := by kernel_rfl
  have px := part_tx X a hX
  have py := part_tx Y b hY
  have qx := part_ix X a hX
  have qy := part_ix Y b hY
  have eX : vbs X = (X.map UInt8.ofBitVec).map Extern.Stop.cell := by simp [vbs, Extern.Stop.cell, Bt]
  have eY : vbs Y = (Y.map UInt8.ofBitVec).map Extern.Stop.cell := by simp [vbs, Extern.Stop.cell, Bt]
  have hb : ∀ w, (Op.equalIn 9999 25 (.agg (vbs X).toArray) (.agg (vbs Y).toArray)).run Try.prog w = .ok (decide (X = Y)) w := fun w => by
    have := run_equalIn_bytes (P := Try.prog) w 9997 25 5 32 Try.underlying25 Try.underlying5 (fun _ => by kernel_rfl) (X.map UInt8.ofBitVec) (Y.map UInt8.ofBitVec) (by simpa using hX) (by simpa using hY)
    rw [← eX, ← eY] at this
    rw [this]
    congr 1
    rw [Bool.eq_iff_iff]
    simp only [beq_iff_eq, decide_eq_true_eq]
    constructor
    · intro h
      have := congrArg (List.map UInt8.toBitVec) h
      simpa [List.map_map, Function.comp_def] using this
    · intro h
      rw [h]
  rw [run_eql_struct, show (10000 : Nat) = 9999 + 1 from rfl, run_equalIn_agg w 9999 66 _ _ hS hp]
  simp only [Program.fieldsOf, Try.underlying66]
  generalize (prevV X a).toArray = P1 at px qx ⊢
  generalize (prevV Y b).toArray = P2 at py qy ⊢
  have hi : ∀ w, (Op.equalIn 9999 23 (.int .u32 (a : Int)) (.int .u32 (b : Int))).run Try.prog w = .ok ((a : Int) == (b : Int)) w := fun w => run_equalIn_int w 9998 23 .u32 .u32 _ _ Try.underlying23
  simp only [Op.eqFields, Sem.run_bind, px, py, qx, qy, hb, hi, Result.andThen_ok, Sem.run_ite, Sem.run_pure]
  by_cases h1 : X = Y <;> by_cases h2 : a = b <;> simp [h1, h2] <;> omega
theorem neq57 (X Y : List (BitVec 8)) (a b : Nat) (hX : X.length = 32) (hY : Y.length = 32) (w : World) :
    (binOp .neq 66 (.agg (prevV X a).toArray) (.agg (prevV Y b).toArray)).run Try.prog w = .ok (.bool (!(decide (X = Y) && decide (a = b)))) w := by
  have h := eql57 X Y a b hX hY w
  rw [run_eql_struct] at h
  rw [run_neq_struct]
  generalize (Op.equalIn 10000 66 (.agg (prevV X a).toArray) (.agg (prevV Y b).toArray)).run Try.prog w = r at h ⊢
  cases r with
  | ok v w' =>
    simp only [Result.andThen_ok] at h ⊢
    cases h
    rfl
  | halt e w' => simp [Result.andThen] at h
theorem inV_prev {x : TIn} {s u : Value} : inV x s u = prevV x.tx x.ix ++ [s, .int .u32 (x.sq : Int), u] := by simp [inV, prevV]
theorem prevV_len {X : List (BitVec 8)} {a : Nat} (h : X.length = 32) : (prevV X a).length = 33 := by simp [prevV, vbs_len, h]
theorem info57 {X : List (BitVec 8)} {a : Nat} (h : X.length = 32) : (Try.prog.info? 66).map (·.size) = some (prevV X a).length := by rw [prevV_len h]; kernel_rfl
theorem Blk.prev {w : World} {b T : Nat} {x : TIn} {s u : Value} (h : Blk w b T (inV x s u)) : w.rangeAt b 0 (prevV x.tx x.ix) := fun j v hv => by
  rw [Nat.zero_add]
  refine h.cell ?_
  rw [inV_prev, List.getElem?_append_left (List.getElem?_eq_some_iff.1 hv).1]
  exact hv
open Go.RowKit
set_option linter.unusedVariables false
set_option linter.unusedSimpArgs false
set_option maxRecDepth 100000
set_option maxHeartbeats 4000000 in
theorem sameIn_any (x y : TIn) (s u s2 u2 : Value) (w : World) (h1 : InOk w w.heap.size x s u) (h2 : InOk w w.heap.size y s2 u2) :
    Calls Try.prog 48 #[.agg (inV x s u).toArray, .agg (inV y s2 u2).toArray] w (EqPost (decide (x.tx = y.tx) && decide (x.ix = y.ix) && decide (x.sq = y.sq) && decide (x.sc = y.sc) && decide (x.wt = y.wt)) w) := by
  obtain ⟨hs, hu, hl, _, _⟩ := h1
  obtain ⟨hs2, hu2, hl2, _, _⟩ := h2
  obtain ⟨e32, e33, e34, e35⟩ := inV_at (x := x) (s := s) (v := u) hl
  obtain ⟨k32, k33, k34, k35⟩ := inV_at (x := y) (s := s2) (v := u2) hl2
  have hb1 : Below w.heap.size w (w.alloc (.cells (inV x s u).toArray 69)) := (Below.refl _ _).alloc (Nat.le_refl _) _
  have hB2 : Below w.heap.size w ((w.alloc (.cells (inV x s u).toArray 69)).alloc (.cells (inV y s2 u2).toArray 69)) := hb1.alloc hb1.size _
  have hBx : Blk ((w.alloc (.cells (inV x s u).toArray 69)).alloc (.cells (inV y s2 u2).toArray 69)) w.heap.size 69 (inV x s u) := by
    have := (Blk.new w 69 (inV x s u).toArray).alloc (.cells (inV y s2 u2).toArray 69)
    rwa [List.toList_toArray] at this
  have hBy : Blk ((w.alloc (.cells (inV x s u).toArray 69)).alloc (.cells (inV y s2 u2).toArray 69)) (w.heap.size + 1) 69 (inV y s2 u2) := by
    have := Blk.new (w.alloc (.cells (inV x s u).toArray 69)) 69 (inV y s2 u2).toArray
    rw [List.toList_toArray, show (w.alloc (.cells (inV x s u).toArray 69)).heap.size = w.heap.size + 1 by simp] at this
    exact this
  have K45 : Hid (∀ wq, Below w.heap.size w wq → Calls Try.prog 63 #[s, s2] wq (EqPost (decide (x.sc = y.sc)) wq)) := fun wq hq => sameText_any s s2 _ _ wq ((hs.keep hq (Nat.le_refl _)).up hq.size) ((hs2.keep hq (Nat.le_refl _)).up hq.size)
  have K46 : Hid (∀ wq, Below w.heap.size w wq → Calls Try.prog 64 #[u, u2, .func (.func 63) #[] #[]] wq (EqPost (decide (x.wt = y.wt)) wq)) := fun wq hq => eqf_texts u u2 _ _ wq ((hu.keep hq (Nat.le_refl _)).up hq.size) ((hu2.keep hq (Nat.le_refl _)).up hq.size)
  obtain ⟨As, cs, rfl, _⟩ := hs
  obtain ⟨As2, cs2, rfl, _⟩ := hs2
  obtain ⟨Au, cu, rfl, _⟩ := hu
  obtain ⟨Au2, cu2, rfl, _⟩ := hu2
  have HRx := Lib.hid hBx.prev
  have HRy := Lib.hid hBy.prev
  have HIx := Lib.hid (info57 (a := x.ix) hl)
  have HIy := Lib.hid (info57 (a := y.ix) hl2)
  have hq57 := eql57 x.tx y.tx x.ix y.ix hl hl2
  have cx33 := hBx.cell e33
  have cx34 := hBx.cell e34
  have cx35 := hBx.cell e35
  have cy33 := hBy.cell k33
  have cy34 := hBy.cell k34
  have cy35 := hBy.cell k35
  have HB := Lib.hid hB2
  generalize inV x (.slice As x.sc.length cs) (.slice Au x.wt.length cu) = CX at *
  generalize inV y (.slice As2 y.sc.length cs2) (.slice Au2 y.wt.length cu2) = CY at *
  obtain ⟨l1, hl1⟩ : ∃ n, n = x.sc.length := ⟨_, rfl⟩
  obtain ⟨l2, hl22⟩ : ∃ n, n = y.sc.length := ⟨_, rfl⟩
  obtain ⟨m1, hm1⟩ : ∃ n, n = x.wt.length := ⟨_, rfl⟩
  obtain ⟨m2, hm2⟩ : ∃ n, n = y.wt.length := ⟨_, rfl⟩
  rw [← hl1] at cx33 K45
  rw [← hl22] at cy33 K45
  rw [← hm1] at cx35 K46
  rw [← hm2] at cy35 K46
  obtain ⟨px, hpx⟩ : ∃ p, p = prevV x.tx x.ix := ⟨_, rfl⟩
  obtain ⟨py, hpy⟩ : ∃ p, p = prevV y.tx y.ix := ⟨_, rfl⟩
  rw [← hpx] at HRx HIx hq57
  rw [← hpy] at HRy HIy hq57
  obtain ⟨b1, hb1'⟩ : ∃ b, b = (decide (x.tx = y.tx) && decide (x.ix = y.ix)) := ⟨_, rfl⟩
  obtain ⟨b3, hb3⟩ : ∃ b, b = decide (x.sc = y.sc) := ⟨_, rfl⟩
  obtain ⟨b4, hb4⟩ : ∃ b, b = decide (x.wt = y.wt) := ⟨_, rfl⟩
  rw [← hb1', ← hb3, ← hb4]
  rw [← hb1'] at hq57
  rw [← hb3] at K45
  rw [← hb4] at K46
  clear e32 e33 e34 e35 k32 k33 k34 k35 hb1 hB2 hBx hBy hl1 hl22 hm1 hm2 hpx hpy hb1' hb3 hb4 hl hl2
  cases b1 with
  | false =>
    go_enter Try.func48, Try.ntmps48
    go_wp2_with (first
      | (with_reducible refine wpList_load_mid rfl 66 (.tmp 5) rfl w.heap.size 0 rfl px _ HRx.out Try.underlying66 rfl HIx.out ?_)
      | (with_reducible refine wpList_load_mid rfl 66 (.tmp 7) rfl (w.heap.size + 1) 0 rfl py _ HRy.out Try.underlying66 rfl HIy.out ?_))
    go_ret
    exact ⟨by simp, HB.out⟩
  | true =>
    by_cases hsq : x.sq = y.sq
    · have e2 : ((x.sq : Int) == (y.sq : Int)) = true := by simp [hsq]
      have d2 : decide (x.sq = y.sq) = true := by simpa using hsq
      rw [d2]
      clear hsq d2
      cases b3 with
      | false =>
        go_enter Try.func48, Try.ntmps48
        go_wp2_with (first
          | (with_reducible refine wpList_load_mid rfl 66 (.tmp 5) rfl w.heap.size 0 rfl px _ HRx.out Try.underlying66 rfl HIx.out ?_)
          | (with_reducible refine wpList_load_mid rfl 66 (.tmp 7) rfl (w.heap.size + 1) 0 rfl py _ HRy.out Try.underlying66 rfl HIy.out ?_)
          | (go_at_call 63; (with_reducible refine (K45.out _ HB.out).mono ?_); rintro e w2 ⟨rfl, hb2⟩; dsimp only))
        go_ret
        exact ⟨by simp, HB.out.trans (hb2.mono HB.out.size)⟩
      | true =>
        go_enter Try.func48, Try.ntmps48
        go_wp2_with (first
          | (with_reducible refine wpList_load_mid rfl 66 (.tmp 5) rfl w.heap.size 0 rfl px _ HRx.out Try.underlying66 rfl HIx.out ?_)
          | (with_reducible refine wpList_load_mid rfl 66 (.tmp 7) rfl (w.heap.size + 1) 0 rfl py _ HRy.out Try.underlying66 rfl HIy.out ?_)
          | (go_at_call 63; (with_reducible refine (K45.out _ HB.out).mono ?_); rintro e w2 ⟨rfl, hb2⟩; have HB2 : Hid (Below w.heap.size w w2) := HB.out.trans (hb2.mono HB.out.size); have dx := (hb2.cell (p := ⟨w.heap.size, 35, none⟩) (World.block_lt_of_cell? _ _ cx35)).trans cx35; have dy := (hb2.cell (p := ⟨w.heap.size + 1, 35, none⟩) (World.block_lt_of_cell? _ _ cy35)).trans cy35; clear hb2; dsimp only)
          | (go_at_call 64; (with_reducible refine (K46.out _ HB2.out).mono ?_); rintro e w3 ⟨rfl, hb3⟩; dsimp only))
        go_ret
        exact ⟨by simp, HB2.out.trans (hb3.mono HB2.out.size)⟩
    · have e2 : ((x.sq : Int) == (y.sq : Int)) = false := by simp; omega
      have d2 : decide (x.sq = y.sq) = false := by simpa using hsq
      rw [d2]
      clear hsq d2
      go_enter Try.func48, Try.ntmps48
      go_wp2_with (first
        | (with_reducible refine wpList_load_mid rfl 66 (.tmp 5) rfl w.heap.size 0 rfl px _ HRx.out Try.underlying66 rfl HIx.out ?_)
        | (with_reducible refine wpList_load_mid rfl 66 (.tmp 7) rfl (w.heap.size + 1) 0 rfl py _ HRy.out Try.underlying66 rfl HIy.out ?_))
      go_ret
      exact ⟨by simp, HB.out⟩
end Go.Proofs.Ytpamepkcbhoiaaa
