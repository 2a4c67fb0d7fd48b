/- What the loop over a witness's items leaves behind. What the closure that reads the witness of an input does. What the closure that reads an input does. What the loop that reads the outputs leaves behind. What the loop that reads the inputs leaves behind. What parsedIns returns. What parsedOuts returns. What the loop that reads the witnesses into the inputs leaves behind, and what parseWitnesses returns. What slices.Equal over bytes, sameText, and the document's own same return: whether two byte strings are equal. What the document's own same and the law package's large return. What was read, as a transaction that lies there; what parsed and Parse answer, as plain functions. -/
import Derived.Test.YtpamepkcbhoiaaaZoa
import Derived.Test.YtpamepkcbhoiaaaZob
import Derived.Test.YtpamepkcbhoiaaaZoc
import Derived.Test.YtpamepkcbhoiaaaZod
import Derived.Outline
namespace Go.Proofs.Ytpamepkcbhoiaaa
open Go.RowKit
set_option linter.unusedVariables false
set_option linter.unusedSimpArgs false
set_option maxRecDepth 100000
theorem tS_short {s : Option (List (BitVec 8))} {k : Nat} (h : Short s k) (m : Nat) : Short (tS s m) k := by
  unfold tS
  split
  · exact cutS_short (gS_short h) _
  · exact gS_short h
/-- n items read of s: the error, the items, what is left. -/
def rI : Nat → Option (List (BitVec 8)) → Int × List (List (BitVec 8)) × Option (List (BitVec 8))
  | 0, s => (0, [], s)
  | n + 1, s => if tE s 128 = 0 then ((rI n (tS s 128)).1, tL s 128 :: (rI n (tS s 128)).2.1, (rI n (tS s 128)).2.2) else (tE s 128, [], tS s 128)
/-- Slices of bytes in a row: each reads as its bytes. -/
def SlNs (w : World) (vs : List Value) (Ls : List (List (BitVec 8))) : Prop := vs.length = Ls.length ∧ ∀ j u, vs[j]? = some u → SlN w u (Ls.getD j [])
theorem SlNs.nil (w : World) : SlNs w [] [] := ⟨rfl, fun j u h => by simp at h⟩
theorem SlNs.snoc {w : World} {vs : List Value} {Ls : List (List (BitVec 8))} {v : Value} {L : List (BitVec 8)} (h : SlNs w vs Ls) (hv : SlN w v L) : SlNs w (vs ++ [v]) (Ls ++ [L]) := by
  refine ⟨by simp [h.1], fun j u hj => ?_⟩
  rcases Nat.lt_or_ge j vs.length with hl | hl
  · rw [List.getElem?_append_left hl] at hj
    have := h.2 j u hj
    have e : (Ls ++ [L]).getD j [] = Ls.getD j [] := by simp [List.getD, List.getElem?_append_left (by rw [← h.1]; exact hl : j < Ls.length)]
    rw [e]; exact this
  · rw [List.getElem?_append_right hl] at hj
    have hj0 : j = vs.length := by
      rcases Nat.eq_or_lt_of_le hl with e | e
      · exact e.symm
      · rw [List.getElem?_eq_none (by simp; omega)] at hj; cases hj
    subst hj0
    simp at hj
    subst hj
    have e : (Ls ++ [L]).getD vs.length [] = L := by rw [h.1]; simp [List.getD]
    rw [e]; exact hv
theorem SlNs.fr {w w' : World} {vs : List Value} {Ls : List (List (BitVec 8))} {B b : Nat} {p : Option Nat} {s : Option (List (BitVec 8))} {T : TypeId} {us : List Value} (h : SlNs w vs Ls) (hR : IsR w B p s) (hb : Blk w b T us) (hT : T ≠ 5) (hf : Fr w w' p (some b)) : SlNs w' vs Ls :=
  ⟨h.1, fun j u hj => (h.2 j u hj).fr hR hb hT hf⟩
def ItsPost (r : Int × List (List (BitVec 8)) × Option (List (BitVec 8))) (B ib : Nat) (p : Option Nat) (w0 : World) (w' : World) : Prop :=
  r.1 = 0 ∧ ∃ vs, SlNs w' vs r.2.1 ∧ Blk w' ib 22 vs ∧ IsR w' B p r.2.2 ∧ Fr w0 w' p (some ib)
def ErrPost (c0 : Int) (s : Option (List (BitVec 8))) (B : Nat) (p q : Option Nat) (w0 : World) (c : Int) (w' : World) : Prop :=
  c0 = c ∧ IsR w' B p s ∧ Fr w0 w' p q
theorem items_any (p : Option Nat) (s : Option (List (BitVec 8))) (B ib n cb cap : Nat) (w0 : World) (h : IsR w0 B p s) (hB : B ≤ w0.heap.size) (hl : Short s 100000000) (hc : Blk w0 cb 42 [ptr p]) (hr : Blk w0 ib 22 (List.replicate n (.slice none 0 0))) (hn : n ≤ 1000000) :
    Calls Try.prog 94 #[.slice (some ⟨ib, 0, none⟩) n cap, .func (.func 95) #[] #[.pointer (some ⟨cb, 0, none⟩)]] w0 (StepPost (ItsPost (rI n s) B ib p w0) (ErrPost (rI n s).1 (rI n s).2.2 B p (some ib) w0)) := by
  have hne : cb ≠ ib := hc.apart hr (by decide)
  refine (eachR_item (fun i w => ∃ (Ls : List (List (BitVec 8))) (s' : Option (List (BitVec 8))) (vs : List Value), vs.length = i ∧ rI n s = ((rI (n - i) s').1, Ls ++ (rI (n - i) s').2.1, (rI (n - i) s').2.2) ∧ SlNs w vs Ls ∧ Blk w ib 22 (vs ++ List.replicate (n - i) (.slice none 0 0)) ∧ IsR w B p s' ∧ Fr w0 w p (some ib) ∧ Blk w cb 42 [ptr p] ∧ Short s' 100000000) (ErrPost (rI n s).1 (rI n s).2.2 B p (some ib) w0) (some ⟨ib, 0, none⟩) n cap ib 0 cb w0 (fun _ => rfl) hn ?_ ?_).mono ?_
  · rintro i hi wq ⟨Ls, s', vs, hvl, hrI, hsl, hb, hR, hF, hcb, hS⟩
    rw [Nat.zero_add]
    obtain ⟨k, hk⟩ : ∃ k, n - i = k + 1 := ⟨n - i - 1, by omega⟩
    have hk2 : n - (i + 1) = k := by omega
    rw [hk] at hrI hb
    refine (rdItem_any p s' B ib i cb _ wq hR (Nat.le_trans hB hF.size) hS hcb hb (by simp; omega)).mono ?_
    rintro e w' ⟨v, rfl, hv, hb', hR', hF'⟩
    refine ⟨_, rfl, fun h0 => ?_, fun h0 => ?_⟩
    · rw [hk2]
      simp only [rI, h0, if_true] at hrI
      refine ⟨Ls ++ [tL s' 128], tS s' 128, vs ++ [v], by simp [hvl], ?_, (hsl.fr hR hb (by decide) hF').snoc hv, ?_, hR', hF.trans hF', hcb.fr hF' (hR.ne hcb (by decide)) (fun e => hne (by injection e)), tS_short hS _⟩
      · rw [hrI]; simp
      · have e1 : (vs ++ List.replicate (k + 1) (Value.slice none 0 0)).set i v = (vs ++ [v]) ++ List.replicate k (Value.slice none 0 0) := by
          rw [List.replicate_succ, ← hvl]; simp
        rw [e1] at hb'
        exact hb'
    · have e1 : rI n s = (tE s' 128, Ls, tS s' 128) := by
        rw [hrI]; simp only [rI, h0, if_false, List.append_nil]
      rw [e1]
      exact ⟨rfl, hR', hF.trans hF'⟩
  · exact ⟨[], s, [], rfl, by simp, SlNs.nil _, by simpa using hr, h, Fr.refl _ _ _, hc, hl⟩
  · rintro e w' ⟨c, rfl, h0, h1⟩
    refine ⟨c, rfl, fun hc0 => ?_, h1⟩
    obtain ⟨Ls, s', vs, hvl, hrI, hsl, hb, hR, hF, _, _⟩ := h0 hc0
    rw [Nat.sub_self] at hrI hb
    simp only [rI, List.append_nil, List.replicate_zero] at hrI hb
    rw [hrI]
    exact ⟨rfl, vs, hsl, hb, hR, hF⟩
open Go.RowKit
set_option linter.unusedVariables false
set_option linter.unusedSimpArgs false
set_option maxRecDepth 100000
theorem info27r : (Try.prog.info? 22).map (fun i => (i.zero, i.size, i.bytes)) = some (some (.slice none 0 0), 1, 24) := by kernel_rfl
theorem make_w (n : Nat) (hn : n ≤ 1000) (w : World) : (Instr.makeSlice 67 (.int .u64 (n : Int)) (.int .u64 (n : Int))).run Try.prog w = .ok (.slice (some ⟨w.heap.size, 0, none⟩) n n) (w.alloc (.cells (Array.replicate n (.slice none 0 0)) 22)) := by
  obtain ⟨i0, hi, hz⟩ : ∃ i, Try.prog.info? 22 = some i ∧ (i.zero, i.size, i.bytes) = (some (.slice none 0 0), 1, 24) := by
    have := info27r
    cases h : Try.prog.info? 22 with
    | none => rw [h] at this; cases this
    | some i => rw [h] at this; exact ⟨i, rfl, by simpa using this⟩
  injection hz with hz0 hz
  injection hz with hz1 hz2
  have hr := run_make (P := Try.prog) w 67 22 i0 (.slice none 0 0) Try.underlying67 hi hz0 .u64 .u64 (n : Int) (n : Int) (by omega) (by omega) (by rw [hz2]; omega) (by omega)
  rw [hr, show ((n : Int)).toNat = n by omega, hz1, Nat.mul_one]
  congr 3
  apply Array.toList_inj.1
  simp [madeCells, Value.cells]
  apply List.ext_getElem (by simp)
  intro i h1 h2
  simp [Nat.mod_one]
/-- The witness that s begins with: the error, the items, what is left. -/
def rW (s : Option (List (BitVec 8))) : Int × List (List (BitVec 8)) × Option (List (BitVec 8)) := if gE s 8 = 0 then rI (gN s) (gS s) else (gE s 8, [], gS s)
theorem rI_len : ∀ (n : Nat) (s : Option (List (BitVec 8))), (rI n s).1 = 0 → (rI n s).2.1.length = n
  | 0, _, _ => rfl
  | n + 1, s, h => by
    by_cases h0 : tE s 128 = 0
    · simp only [rI, h0, if_true] at h ⊢
      simp [rI_len n _ h]
    · simp only [rI, h0, if_false] at h
/-- A slice of slices of bytes of the program's own. -/
def WsN (w : World) (u : Value) (Ls : List (List (BitVec 8))) : Prop := ∃ ib vs, u = .slice (some ⟨ib, 0, none⟩) Ls.length Ls.length ∧ Blk w ib 22 vs ∧ SlNs w vs Ls
def WitPost (r : Int × List (List (BitVec 8)) × Option (List (BitVec 8))) (B rb o : Nat) (p : Option Nat) (xs : List Value) (w0 : World) (w' : World) : Prop :=
  r.1 = 0 ∧ ∃ u, WsN w' u r.2.1 ∧ Blk w' rb 69 (xs.set (o + 35) u) ∧ IsR w' B p r.2.2 ∧ Fr w0 w' p (some rb)
set_option maxHeartbeats 1000000 in
theorem rdWit_any (p : Option Nat) (s : Option (List (BitVec 8))) (B rb o cb : Nat) (xs : List Value) (w : World) (h : IsR w B p s) (hB : B ≤ w.heap.size) (hl : Short s 100000000) (hc : Blk w cb 42 [ptr p]) (hr : Blk w rb 69 xs) (hj : o + 35 < xs.length) :
    Calls Try.prog 93 #[.pointer (some ⟨rb, o, none⟩), .pointer (some ⟨cb, 0, none⟩)] w (StepPost (WitPost (rW s) B rb o p xs w) (ErrPost (rW s).1 (rW s).2.2 B p (some rb) w)) := by
  have c0 := hc.cell (j := 0) (v := ptr p) rfl
  have K : Hid (Calls Try.prog 35 #[ptr p, .int .u64 8] w (GetPost (gV s 8) (gE s 8) (gS s) B p w)) := get_any p s 8 B w h hB
  have HN := Lib.hid (h.ne hr (by decide))
  have HNc := Lib.hid (h.ne hc (by decide))
  have HX := Lib.hid (hc.apart hr (by decide))
  have HC := Lib.hid hc
  have HR := Lib.hid hr
  have HB := Lib.hid hB
  have HL := Lib.hid (gS_short hl)
  by_cases he : gE s 8 = 0
  · have hN := gE_ne s 8 he
    have eV : gV s 8 = gN s := by unfold gV; rw [if_pos he]
    have eW : rW s = rI (gN s) (gS s) := by unfold rW; rw [if_pos he]
    rw [eW]
    rw [he, eV] at K
    obtain ⟨n, hn⟩ : ∃ n, n = gN s := ⟨_, rfl⟩
    obtain ⟨s1, hs1⟩ : ∃ s', s' = gS s := ⟨_, rfl⟩
    rw [← hn, ← hs1] at K ⊢
    rw [← hn] at hN
    rw [← hs1] at HL
    obtain ⟨y, hy⟩ : ∃ y, xs[o + 35]? = some y := ⟨_, List.getElem?_eq_getElem hj⟩
    have HY := Lib.hid hy
    have hM := make_w n (by omega)
    have HLn := Lib.hid (rI_len n s1)
    have HN8 := Lib.hid hN
    obtain ⟨P, hP⟩ : ∃ P, P = ptr p := ⟨_, rfl⟩
    have HP := Lib.hid hP
    rw [← hP] at c0 K
    clear h hB hl hc hr hj he hN eV eW hn hs1 hy hP
    go_enter Try.func93, Try.ntmps93
    go_wp2_with (first
      | (go_at_call 94; go_loud ((with_reducible refine K2.out.mono ?_); rintro e w2 hpost; have HPo := Lib.hid hpost; obtain ⟨c, rfl, _, _⟩ := hpost; clear K2; dsimp only))
      | (go_at_call 35; go_loud ((with_reducible refine K.out.mono ?_); rintro e w1 ⟨rfl, hi, hg⟩; have hb1 := HR.out.grown hg HN.out; have hc1 := HC.out.grown hg HNc.out; have hbA := hb1.alloc (.cells (Array.replicate n (.slice none 0 0)) 22); have d0 := hbA.cell HY.out; have f0 := hbA.free (o + 35); have hbS := hbA.set (o + 35) (.slice (some ⟨w1.heap.size, 0, none⟩) n n); have hlt : o + 35 < xs.length := (List.getElem?_eq_some_iff.1 HY.out).1; have d1 := hbS.cell (j := o + 35) (v := .slice (some ⟨w1.heap.size, 0, none⟩) n n) (by simp [hlt]); have hnew := Blk.new w1 22 (Array.replicate n (.slice none 0 0)); have hne : w1.heap.size ≠ rb := (by have := hb1.lt; omega); have hnS := hnew.other (a := ⟨rb, o + 35, none⟩) hne (.slice (some ⟨w1.heap.size, 0, none⟩) n n); have hcA := (hc1.alloc (.cells (Array.replicate n (.slice none 0 0)) 22)).other (a := ⟨rb, o + 35, none⟩) HX.out (.slice (some ⟨w1.heap.size, 0, none⟩) n n); have hBw1 : B ≤ w1.heap.size := Nat.le_trans HB.out hg.size; have hbW : Below w1.heap.size w1 (w1.alloc (.cells (Array.replicate n (.slice none 0 0)) 22)) := (Below.refl _ _).alloc (Nat.le_refl _) _; have hiA := hi.below hbW hBw1; have hiS := hiA.store hbA (by decide) (by decide) (o + 35) (.slice (some ⟨w1.heap.size, 0, none⟩) n n); have fA : Fr w1 (w1.alloc (.cells (Array.replicate n (.slice none 0 0)) 22)) p (some rb) := ⟨hbW.os, hbW.tape, hbW.output, hbW.size, fun k hk _ _ => hbW.block k hk⟩; have HF := Lib.hid (((Fr.of_grown hg (some rb)).trans fA).trans (Fr.store _ p rb (o + 35) (.slice (some ⟨w1.heap.size, 0, none⟩) n n))); have K2 := Lib.hid (items_any p s1 B w1.heap.size n cb n _ hiS (Nat.le_trans HB.out HF.out.size) HL.out hcA (by simpa using hnS) (by have := HN8.out; omega)); have HS := Lib.hid hbS; have HG := Lib.hid hg; have HIS := Lib.hid hiS; clear hi hg hb1 hc1 hbA hbS hnew hnS hcA hbW hiA hiS fA K c0; dsimp only)))
    go_ret
    obtain ⟨c', ec, h0, h1⟩ := HPo.out
    obtain rfl : c = c' := by injection ec with ec; injection ec
    have hsz : w.heap.size ≤ w1.heap.size := HG.out.size
    refine ⟨c, rfl, fun hc => ?_, fun hc => ?_⟩
    · obtain ⟨hr0, vs, hsl, hb, hR, hF⟩ := h0 hc
      exact ⟨hr0, _, ⟨w1.heap.size, vs, by rw [HLn.out hr0], hb, hsl⟩, HS.out.fr hF (HIS.out.ne HS.out (by decide)) (fun e => hne (by injection e with e; exact e.symm)), hR, HF.out.outer hF hsz⟩
    · obtain ⟨hr0, hR, hF⟩ := h1 hc
      exact ⟨hr0, hR, HF.out.outer hF hsz⟩
  · have eV : gV s 8 = 0 := by unfold gV; rw [if_neg he]
    have eW : rW s = (gE s 8, [], gS s) := by unfold rW; rw [if_neg he]
    rw [eW]
    rw [eV] at K
    obtain ⟨c, hcE⟩ : ∃ c, c = gE s 8 := ⟨_, rfl⟩
    rw [← hcE] at K he ⊢
    obtain ⟨s1, hs1⟩ : ∃ s', s' = gS s := ⟨_, rfl⟩
    rw [← hs1] at K ⊢
    have hc0 : (c != 0) = true := by simpa using he
    obtain ⟨P, hP⟩ : ∃ P, P = ptr p := ⟨_, rfl⟩
    rw [← hP] at c0 K
    have HE := Lib.hid he
    clear h hB hl hc hr hj he eV eW hcE hs1 hP
    go_enter Try.func93, Try.ntmps93
    go_wp2_with (go_at_call 35; (with_reducible refine K.out.mono ?_); rintro e w1 ⟨rfl, hi, hg⟩; have HI := Lib.hid hi; have HG := Lib.hid hg; clear hi hg K c0; dsimp only)
    go_ret
    exact ⟨c, rfl, fun h => absurd h HE.out, fun _ => ⟨rfl, HI.out, Fr.of_grown HG.out _⟩⟩
open Go.RowKit
set_option linter.unusedVariables false
set_option linter.unusedSimpArgs false
set_option maxRecDepth 100000
theorem cons_of {α : Type} {P : List α} {n : Nat} (h : P.length = n + 1) : ∃ a r, P = a :: r ∧ r.length = n := by
  cases P with
  | nil => cases h
  | cons a r => exact ⟨a, r, rfl, by simpa using h⟩
def ptV (X : List (BitVec 8)) (n : Nat) : List Value := vbs X ++ [.int .u32 (n : Int)]
theorem built54 (X : List (BitVec 8)) (n : Nat) (h1 : X.length = 32) : Try.prog.built 66 [(0, .agg (vbs X).toArray), (1, .int .u32 (n : Int))] = some (ptV X n).toArray := by
  obtain ⟨a0, p0, rfl, m0⟩ := cons_of h1
  obtain ⟨a1, p1, rfl, m1⟩ := cons_of m0
  obtain ⟨a2, p2, rfl, m2⟩ := cons_of m1
  obtain ⟨a3, p3, rfl, m3⟩ := cons_of m2
  obtain ⟨a4, p4, rfl, m4⟩ := cons_of m3
  obtain ⟨a5, p5, rfl, m5⟩ := cons_of m4
  obtain ⟨a6, p6, rfl, m6⟩ := cons_of m5
  obtain ⟨a7, p7, rfl, m7⟩ := cons_of m6
  obtain ⟨a8, p8, rfl, m8⟩ := cons_of m7
  obtain ⟨a9, p9, rfl, m9⟩ := cons_of m8
  obtain ⟨a10, p10, rfl, m10⟩ := cons_of m9
  obtain ⟨a11, p11, rfl, m11⟩ := cons_of m10
  obtain ⟨a12, p12, rfl, m12⟩ := cons_of m11
  obtain ⟨a13, p13, rfl, m13⟩ := cons_of m12
  obtain ⟨a14, p14, rfl, m14⟩ := cons_of m13
  obtain ⟨a15, p15, rfl, m15⟩ := cons_of m14
  obtain ⟨a16, p16, rfl, m16⟩ := cons_of m15
  obtain ⟨a17, p17, rfl, m17⟩ := cons_of m16
  obtain ⟨a18, p18, rfl, m18⟩ := cons_of m17
  obtain ⟨a19, p19, rfl, m19⟩ := cons_of m18
  obtain ⟨a20, p20, rfl, m20⟩ := cons_of m19
  obtain ⟨a21, p21, rfl, m21⟩ := cons_of m20
  obtain ⟨a22, p22, rfl, m22⟩ := cons_of m21
  obtain ⟨a23, p23, rfl, m23⟩ := cons_of m22
  obtain ⟨a24, p24, rfl, m24⟩ := cons_of m23
  obtain ⟨a25, p25, rfl, m25⟩ := cons_of m24
  obtain ⟨a26, p26, rfl, m26⟩ := cons_of m25
  obtain ⟨a27, p27, rfl, m27⟩ := cons_of m26
  obtain ⟨a28, p28, rfl, m28⟩ := cons_of m27
  obtain ⟨a29, p29, rfl, m29⟩ := cons_of m28
  obtain ⟨a30, p30, rfl, m30⟩ := cons_of m29
  obtain ⟨a31, p31, rfl, m31⟩ := cons_of m30
  obtain rfl := List.eq_nil_of_length_eq_zero m31
  kernel_rfl
theorem wp_build54 {o : Oper} {a : Act} {w : World} {K : Act → World → Prop} {Q : Exit → Act → World → Prop} (x0 x1 : Operand) (ho : o.op = .build 66 #[(0, x0), (1, x1)])
    (X : List (BitVec 8)) (n : Nat) (h0 : a.eval x0 = .agg (vbs X).toArray) (h1 : a.eval x1 = .int .u32 (n : Int)) (l1 : X.length = 32)
    (h : K (a.put o.dst (.agg (ptV X n).toArray)) w) : o.wp Try.prog a w K Q := by
  have e : Try.prog.built 66 ((#[(0, x0), (1, x1)] : Array (Nat × Operand)).map fun (i, x) => (i, a.eval x)).toList = some (ptV X n).toArray := by
    rw [← built54 X n l1]
    simp [h0, h1]
  exact wp_build 66 _ ho (by rw [e]; rfl) (by rw [e]; exact h)
theorem Blk.setCells_mid (b : Nat) (T : TypeId) : ∀ (us cur pre post : List Value) (w : World), us.length = cur.length → Blk w b T (pre ++ (cur ++ post)) → Blk (w.setCells b pre.length us) b T (pre ++ (us ++ post))
  | [], [], _, _, _, _, h => h
  | [], _ :: _, _, _, _, hl, _ => by simp at hl
  | _ :: _, [], _, _, _, hl, _ => by simp at hl
  | u :: us, c :: cur, pre, post, w, hl, h => by
    have h1 := h.set pre.length u
    have e : (pre ++ (c :: cur ++ post)).set pre.length u = (pre ++ [u]) ++ (cur ++ post) := by simp
    rw [e] at h1
    have h2 := Blk.setCells_mid b T us cur (pre ++ [u]) post _ (by simpa using hl) h1
    simpa [World.setCells] using h2
theorem Fr.stores (w : World) (p : Option Nat) (b : Nat) : ∀ (us : List Value) (o : Nat) (w' : World), Fr w w' p (some b) → Fr w (w'.setCells b o us) p (some b)
  | [], _, _, h => h
  | u :: us, o, w', h => Fr.stores w p b us (o + 1) _ (h.trans (Fr.store w' p b o u))
theorem IsR.stores {B b : Nat} {p : Option Nat} {s : Option (List (BitVec 8))} {T : TypeId} (hT : T ≠ 78) (hT5 : T ≠ 5) : ∀ (us : List Value) (o : Nat) (w : World) (vs : List Value), Blk w b T vs → IsR w B p s → IsR (w.setCells b o us) B p s
  | [], _, _, _, _, h => h
  | u :: us, o, w, vs, hb, h => IsR.stores hT hT5 us (o + 1) _ _ (hb.set o u) (h.store hb hT hT5 o u)
/-- An input's bytes, less its witness. -/
def rInV (s : Option (List (BitVec 8))) : TIn := ⟨hashL s, numV (cutS s 32) 4, tL (numS (cutS s 32) 4) 128, numV (tS (numS (cutS s 32) 4) 128) 4, []⟩
def rInE (s : Option (List (BitVec 8))) : Int := tE (numS (cutS s 32) 4) 128
def rInS (s : Option (List (BitVec 8))) : Option (List (BitVec 8)) := numS (tS (numS (cutS s 32) 4) 128) 4
theorem Blk.there_mid {w : World} {b : Nat} {T : TypeId} {vs : List Value} (h : Blk w b T vs) (o n : Nat) (hl : o + n ≤ vs.length) : w.there b o n := fun j hj =>
  ⟨by rw [h.cell (List.getElem?_eq_getElem (show o + j < vs.length by omega))]; rfl, h.free _⟩
theorem ptV_len {X : List (BitVec 8)} {n : Nat} (h : X.length = 32) : (ptV X n).length = 33 := by simp [ptV, vbs_len, h]
theorem ptV_one (X : List (BitVec 8)) (n : Nat) : (ptV X n).toArray.all (·.oneCell') = true := all_oneCell_toArray (by
  intro v hv
  simp only [ptV, List.mem_append, List.mem_singleton, vbs, List.mem_map] at hv
  rcases hv with ⟨_, _, rfl⟩ | rfl <;> rfl)
theorem set33 (pre post : List Value) (X : List (BitVec 8)) (n : Nat) (a b c v : Value) (h : X.length = 32) : (pre ++ (ptV X n ++ ([a, b, c] ++ post))).set (pre.length + 33) v = pre ++ (ptV X n ++ ([v, b, c] ++ post)) := by
  rw [List.set_append_right _ _ (by omega), List.set_append_right _ _ (by rw [ptV_len h]; omega), ptV_len h, show pre.length + 33 - pre.length - 33 = 0 by omega]
  rfl
theorem set34 (pre post : List Value) (X : List (BitVec 8)) (n : Nat) (a b c v : Value) (h : X.length = 32) : (pre ++ (ptV X n ++ ([a, b, c] ++ post))).set (pre.length + 34) v = pre ++ (ptV X n ++ ([a, v, c] ++ post)) := by
  rw [List.set_append_right _ _ (by omega), List.set_append_right _ _ (by rw [ptV_len h]; omega), ptV_len h, show pre.length + 34 - pre.length - 33 = 1 by omega]
  rfl
def RdInPost (s : Option (List (BitVec 8))) (B rb : Nat) (p : Option Nat) (pre post : List Value) (w : World) (e : Ending) (w' : World) : Prop :=
  ∃ v, e = .returned (.int .i64 (rInE s)) ∧ SlN w' v (rInV s).sc ∧ Blk w' rb 69 (pre ++ (inV (rInV s) v (.slice none 0 0) ++ post)) ∧ IsR w' B p (rInS s) ∧ Fr w w' p (some rb)
theorem numV_4 (s : Option (List (BitVec 8))) : numV s 4 < 4294967296 := by
  have h := lev_lt (takeL s 4)
  have h1 : (takeL s 4).length ≤ 4 := by
    cases s with
    | none => simp [takeL]
    | some L =>
      simp only [takeL]
      split
      · rw [List.length_take]; omega
      · simp
  have : 2 ^ (8 * (takeL s 4).length) ≤ 2 ^ 32 := Nat.pow_le_pow_right (by omega) (by omega)
  unfold numV
  split <;> omega
theorem info54 : (Try.prog.info? 66).map (·.size) = some 33 := by kernel_rfl
set_option maxHeartbeats 4000000 in
theorem rdIn_any (p : Option Nat) (s : Option (List (BitVec 8))) (B rb cb : Nat) (x0 : TIn) (pre post : List Value) (w : World) (h : IsR w B p s) (hB : B ≤ w.heap.size) (hl : Short s 100000000) (hc : Blk w cb 42 [ptr p]) (hx0 : x0.tx.length = 32) (hr : Blk w rb 69 (pre ++ (inV x0 (.slice none 0 0) (.slice none 0 0) ++ post))) :
    Calls Try.prog 90 #[.pointer (some ⟨rb, pre.length, none⟩), .pointer (some ⟨cb, 0, none⟩)] w (RdInPost s B rb p pre post w) := by
  obtain ⟨o, ho⟩ : ∃ o, o = pre.length := ⟨_, rfl⟩
  have Ho := Lib.hid ho
  have HN := Lib.hid (h.ne hr (by decide))
  have HNc := Lib.hid (h.ne hc (by decide))
  have HX := Lib.hid (hc.apart hr (by decide))
  have HC := Lib.hid hc
  have HR := Lib.hid hr
  have HB := Lib.hid hB
  have HI := Lib.hid h
  have HLh := Lib.hid (hashL_len s)
  have HL1 := Lib.hid (cutS_short hl 32)
  have hx4 := numV_4 (cutS s 32)
  have hx4' := numV_4 (tS (numS (cutS s 32) 4) 128)
  have HX0 := Lib.hid hx0
  have HS2 := Lib.hid (numS_short (cutS_short hl 32) 4)
  unfold RdInPost rInE rInS rInV
  obtain ⟨X, hX⟩ : ∃ X, X = hashL s := ⟨_, rfl⟩
  obtain ⟨s1, hs1⟩ : ∃ s', s' = cutS s 32 := ⟨_, rfl⟩
  rw [← hs1] at hx4 hx4' HL1 HS2 ⊢
  rw [← hX] at HLh ⊢
  obtain ⟨n4, hn4⟩ : ∃ n, n = numV s1 4 := ⟨_, rfl⟩
  obtain ⟨s2, hs2⟩ : ∃ s', s' = numS s1 4 := ⟨_, rfl⟩
  rw [← hn4] at hx4 ⊢
  rw [← hs2] at hx4' HS2 ⊢
  obtain ⟨Y, hY⟩ : ∃ Y, Y = tL s2 128 := ⟨_, rfl⟩
  obtain ⟨c, hcE⟩ : ∃ c, c = tE s2 128 := ⟨_, rfl⟩
  obtain ⟨s3, hs3⟩ : ∃ s', s' = tS s2 128 := ⟨_, rfl⟩
  rw [← hs3] at hx4' ⊢
  rw [← hY, ← hcE]
  obtain ⟨m4, hm4⟩ : ∃ n, n = numV s3 4 := ⟨_, rfl⟩
  obtain ⟨s4, hs4⟩ : ∃ s', s' = numS s3 4 := ⟨_, rfl⟩
  rw [← hm4] at hx4' ⊢
  rw [← hs4]
  obtain ⟨P, hP⟩ : ∃ P, P = ptr p := ⟨_, rfl⟩
  have KH : Hid (∀ wq, IsR wq B p s → B ≤ wq.heap.size → Calls Try.prog 33 #[P] wq (HashPost X s1 B p wq)) := fun wq hq hBq => by rw [hP, hX, hs1]; exact hash_any p s B wq hq hBq
  have KN : Hid (∀ wq, IsR wq B p s1 → B ≤ wq.heap.size → Calls Try.prog 32 #[P, .int .i64 4] wq (NumPost n4 s2 B p wq)) := fun wq hq hBq => by rw [hP, hn4, hs2]; exact num_any p s1 4 B wq hq hBq
  have KT : Hid (∀ wq, IsR wq B p s2 → B ≤ wq.heap.size → Calls Try.prog 91 #[P, .int .i64 128] wq (TextPost Y c s3 B p wq)) := fun wq hq hBq => by rw [hP, hY, hcE, hs3]; exact text_any p s2 128 B wq hq hBq HS2.out (by omega)
  have KM : Hid (∀ wq, IsR wq B p s3 → B ≤ wq.heap.size → Calls Try.prog 32 #[P, .int .i64 4] wq (NumPost m4 s4 B p wq)) := fun wq hq hBq => by rw [hP, hm4, hs4]; exact num_any p s3 4 B wq hq hBq
  have hw4 : IntKind.u32.wrap (n4 : Int) = (n4 : Int) := by rw [IntKind.wrap_u32]; omega
  have hw4' : IntKind.u32.wrap (m4 : Int) = (m4 : Int) := by rw [IntKind.wrap_u32]; omega
  rw [← hP] at HC
  rw [← ho]
  clear h hB hl hc hx0 hr hx4 hx4' hX hs1 hn4 hs2 hY hcE hs3 hm4 hs4 hP ho
  go_enter Try.func90, Try.ntmps90
  go_upto_region 1 with fail
  generalize hWd : w.drew = Wd
  have hCd : Blk Wd cb 42 [P] := by rw [← hWd]; exact HC.out.drew
  have hRd : Blk Wd rb 69 (pre ++ (inV x0 (.slice none 0 0) (.slice none 0 0) ++ post)) := by rw [← hWd]; exact HR.out.drew
  have hId : IsR Wd B p s := by rw [← hWd]; exact HI.out
  have hFd : Fr w Wd p (some rb) := by rw [← hWd]; exact ⟨rfl, rfl, rfl, Nat.le_refl _, fun _ _ _ _ => rfl⟩
  refine wp_region_but (z := 999) (fun wq => Blk wq cb 42 [P]) (by kernel_rfl) ?_
  rw [hWd]
  have hS := hCd
  clear hWd
  refine AnyBut.takeE (i := 0) (v := ?_) rfl (by kernel_rfl) (by kernel_rfl) (by kernel_rfl) (by kernel_rfl) (fun _ _ _ h => h) (Or.inl ⟨by rfl, ?_⟩) hS ?_
  rotate_left
  · (intro wq hq; go_simp; try with_reducible rfl)
  try simp only [Act.put, List.setIfInBounds_toArray, List.set_cons_zero, List.set_cons_succ, List.getElem_toArray, List.getElem_cons_zero, List.getElem_cons_succ]
  refine AnyBut.takeE (i := 1) (v := P) rfl (by kernel_rfl) (by kernel_rfl) (by kernel_rfl) (by kernel_rfl) (fun _ _ _ h => h) (Or.inl ⟨by rfl, ?_⟩) hS ?_
  · intro wq hq
    have dq := Blk.cell hq (j := 0) (v := P) rfl
    go_simp
  try simp only [Act.put, List.setIfInBounds_toArray, List.set_cons_zero, List.set_cons_succ, List.getElem_toArray, List.getElem_cons_zero, List.getElem_cons_succ]
  refine AnyBut.takeE (i := 3) (v := P) rfl (by kernel_rfl) (by kernel_rfl) (by kernel_rfl) (by kernel_rfl) (fun _ _ _ h => h) (Or.inl ⟨by rfl, ?_⟩) hS ?_
  · intro wq hq
    have dq := Blk.cell hq (j := 0) (v := P) rfl
    go_simp
  try simp only [Act.put, List.setIfInBounds_toArray, List.set_cons_zero, List.set_cons_succ, List.getElem_toArray, List.getElem_cons_zero, List.getElem_cons_succ]
  refine AnyBut.gone (i := 2) (by kernel_rfl) rfl (by rfl) (fun K hK => ?_)
  go_simp
  (with_reducible refine (KH.out _ hId (Nat.le_trans HB.out hFd.size)).mono ?_)
  rintro e w1 ⟨rfl, hi1, hg⟩
  have hS := hS.grown hg HNc.out
  have hR1 := hRd.grown hg HN.out
  have hF1 := hFd.trans (Fr.of_grown hg (some rb))
  dsimp only
  refine hK _ _ (fun _ => hS) ?_
  clear hK K hg
  try simp only [Act.put, List.setIfInBounds_toArray, List.set_cons_zero, List.set_cons_succ, List.getElem_toArray, List.getElem_cons_zero, List.getElem_cons_succ]
  refine AnyBut.gone (i := 4) (by kernel_rfl) rfl (by rfl) (fun K hK => ?_)
  go_simp
  (with_reducible refine (KN.out _ hi1 (Nat.le_trans HB.out hF1.size)).mono ?_)
  rintro e w2 ⟨rfl, hi2, hg⟩
  have hS := hS.grown hg HNc.out
  have hR2 := hR1.grown hg HN.out
  have hF2 := hF1.trans (Fr.of_grown hg (some rb))
  dsimp only
  refine hK _ _ (fun _ => hS) ?_
  clear hK K hg
  try simp only [Act.put, List.setIfInBounds_toArray, List.set_cons_zero, List.set_cons_succ, List.getElem_toArray, List.getElem_cons_zero, List.getElem_cons_succ]
  refine AnyBut.takeE (i := 5) (v := .int .u32 (n4 : Int)) rfl (by kernel_rfl) (by kernel_rfl) (by kernel_rfl) (by kernel_rfl) (fun _ _ _ h => h) (Or.inl ⟨by rfl, ?_⟩) hS ?_
  · intro wq hq
    go_simp
  try simp only [Act.put, List.setIfInBounds_toArray, List.set_cons_zero, List.set_cons_succ, List.getElem_toArray, List.getElem_cons_zero, List.getElem_cons_succ]
  refine AnyBut.gone (i := 6) (by kernel_rfl) rfl (by rfl) (fun K hK => ?_)
  refine wp_build54 (.tmp 6) (.tmp 9) rfl X n4 rfl rfl HLh.out ?_
  refine hK _ _ (fun _ => hS) ?_
  clear hK K
  try simp only [Act.put, List.setIfInBounds_toArray, List.set_cons_zero, List.set_cons_succ, List.getElem_toArray, List.getElem_cons_zero, List.getElem_cons_succ]
  refine AnyBut.takeE (i := 7) (v := ?_) rfl (by kernel_rfl) (by kernel_rfl) (by kernel_rfl) (by kernel_rfl) (fun _ _ _ h => h) (Or.inl ⟨by rfl, ?_⟩) hS ?_
  rotate_left
  · (intro wq hq; go_simp; try with_reducible rfl)
  try simp only [Act.put, List.setIfInBounds_toArray, List.set_cons_zero, List.set_cons_succ, List.getElem_toArray, List.getElem_cons_zero, List.getElem_cons_succ]
  refine AnyBut.takeE (i := 8) (v := ?_) rfl (by kernel_rfl) (by kernel_rfl) (by kernel_rfl) (by kernel_rfl) (fun _ _ _ h => h) (Or.inl ⟨by rfl, ?_⟩) hS ?_
  rotate_left
  · (intro wq hq; go_simp; try with_reducible rfl)
  try simp only [Act.put, List.setIfInBounds_toArray, List.set_cons_zero, List.set_cons_succ, List.getElem_toArray, List.getElem_cons_zero, List.getElem_cons_succ]
  have hcur : pre ++ (inV x0 (.slice none 0 0) (.slice none 0 0) ++ post) = pre ++ ((vbs x0.tx ++ [.int .u32 (x0.ix : Int)]) ++ ([.slice none 0 0, .int .u32 (x0.sq : Int), .slice none 0 0] ++ post)) := by simp [inV]
  have hlen : (pre ++ (inV x0 (.slice none 0 0) (.slice none 0 0) ++ post)).length = o + 36 + post.length := by rw [Ho.out]; simp [inV_len HX0.out]; omega
  have hth : w2.there rb o (ptV X n4).toArray.size := by rw [List.size_toArray, ptV_len HLh.out]; exact hR2.there_mid o 33 (by rw [hlen]; omega)
  have hif : (Try.prog.info? 66).map (·.size) = some (ptV X n4).toArray.size := by rw [List.size_toArray, ptV_len HLh.out]; exact info54
  have hR3 : Blk (w2.setCells rb o (ptV X n4)) rb 69 (pre ++ (ptV X n4 ++ ([.slice none 0 0, .int .u32 (x0.sq : Int), .slice none 0 0] ++ post))) := by
    have := hR2
    rw [hcur] at this
    rw [Ho.out]
    exact Blk.setCells_mid rb 69 (ptV X n4) _ pre _ w2 (by rw [ptV_len HLh.out]; simp [vbs_len, HX0.out]) this
  have hI3 : IsR (w2.setCells rb o (ptV X n4)) B p s2 := IsR.stores (by decide) (by decide) (ptV X n4) o w2 _ hR2 hi2
  have hF3 : Fr w (w2.setCells rb o (ptV X n4)) p (some rb) := Fr.stores w p rb (ptV X n4) o w2 hF2
  have hC3 : Blk (w2.setCells rb o (ptV X n4)) cb 42 [P] := Blk.other_setCells HX.out (ptV X n4) o w2 hS
  clear hcur hlen
  refine AnyBut.gone (i := 9) (by kernel_rfl) rfl (by rfl) (fun K hK => ?_)
  refine wp_store_mid 66 (.tmp 12) (.tmp 10) rfl rb o (ptV X n4).toArray rfl rfl hth hif (ptV_one X n4) ?_
  refine hK _ _ (fun _ => hC3) ?_
  clear hK K hth hif
  try simp only [Act.put, List.setIfInBounds_toArray, List.set_cons_zero, List.set_cons_succ, List.getElem_toArray, List.getElem_cons_zero, List.getElem_cons_succ]
  refine AnyBut.done (by kernel_rfl) ?_ _
  try dsimp only [Exit.then]
  clear hS hR2 hR1 hF1 hF2 hi1 hi2 hCd hRd hId hFd
  generalize w2.setCells rb o (ptV X n4) = w3 at hR3 hI3 hF3 hC3 ⊢
  obtain ⟨L3, hL3⟩ : ∃ L, L = pre ++ (ptV X n4 ++ ([.slice none 0 0, .int .u32 (x0.sq : Int), .slice none 0 0] ++ post)) := ⟨_, rfl⟩
  rw [← hL3] at hR3
  have hl3 : o + 36 ≤ L3.length := by rw [hL3, Ho.out]; simp [ptV_len HLh.out]; omega
  obtain ⟨y, hy⟩ : ∃ y, L3[o + 33]? = some y := ⟨_, List.getElem?_eq_getElem (by omega)⟩
  obtain ⟨z, hz⟩ : ∃ z, L3[o + 34]? = some z := ⟨_, List.getElem?_eq_getElem (by omega)⟩
  have HY3 := Lib.hid hy
  have HZ3 : Hid (∀ v, (L3.set (o + 33) v)[o + 34]? = some z) := fun v => by rw [List.getElem?_set_ne (by omega)]; exact hz
  have HL3 := Lib.hid hL3
  have HR3 := Lib.hid hR3
  have HI3 := Lib.hid hI3
  have HF3 := Lib.hid hF3
  have HC3 := Lib.hid hC3
  have c3 := hC3.cell (j := 0) (v := P) rfl
  have HB3 : Hid (B ≤ w3.heap.size) := Nat.le_trans HB.out hF3.size
  clear hL3 hR3 hI3 hF3 hC3 hl3 hy hz HC HR HI
  go_wp2_with (first
    | (go_at_call 32; go_loud ((with_reducible refine (KM.out _ HI5.out HB5.out).mono ?_); rintro e w6 ⟨rfl, hi6, hg6⟩; have hR6 := HR5.out.grown hg6 HN.out; have d2 := hR6.cell (HZ3.out _); have f2 := hR6.free (o + 34); have HS6 := Lib.hid (HS5.out.fr HI5.out HR5.out (by decide) (Fr.of_grown hg6 (some rb))); have HR6 := Lib.hid hR6; have HI6 := Lib.hid hi6; have HF6 := Lib.hid (HF5.out.trans (Fr.of_grown hg6 (some rb))); clear hi6 hg6 hR6 c2 KM; dsimp only))
    | (go_at_call 91; go_loud ((with_reducible refine (KT.out _ HI3.out HB3.out).mono ?_); rintro e w4 ⟨v, rfl, ho4, hi4, hg4⟩; obtain ⟨A, cap, rfl, hS4⟩ := ho4.own5; have hR4 := HR3.out.grown hg4 HN.out; have d1 := hR4.cell HY3.out; have f1 := hR4.free (o + 33); have fs4 := Fr.store w4 p rb (o + 33) (.slice A Y.length cap); have hsn : SlN w4 (.slice A Y.length cap) Y := ⟨A, cap, rfl, hS4⟩; have HS5 := Lib.hid (hsn.fr hi4 hR4 (by decide) fs4); have HI5 := Lib.hid (hi4.store hR4 (by decide) (by decide) (o + 33) (.slice A Y.length cap)); have HR5 := Lib.hid (hR4.set (o + 33) (.slice A Y.length cap)); have HF5 := Lib.hid ((HF3.out.trans (Fr.of_grown hg4 (some rb))).trans fs4); have c2 := ((HC3.out.grown hg4 HNc.out).other HX.out (a := ⟨rb, o + 33, none⟩) (.slice A Y.length cap)).cell (j := 0) rfl; have HB5 := Lib.hid (Nat.le_trans HB.out HF5.out.size); clear ho4 hi4 hg4 hS4 hR4 fs4 hsn c3 KT; dsimp only)))
  go_ret
  have fs7 := Fr.store w6 p rb (o + 34) (.int .u32 (m4 : Int))
  refine ⟨_, rfl, HS6.out.fr HI6.out HR6.out (by decide) fs7, ?_, HI6.out.store HR6.out (by decide) (by decide) _ _, HF6.out.trans fs7⟩
  have hfin := HR6.out.set (o + 34) (.int .u32 (m4 : Int))
  rw [HL3.out, Ho.out, set33 _ _ _ _ _ _ _ _ HLh.out, set34 _ _ _ _ _ _ _ _ HLh.out] at hfin
  have ei : pre ++ (inV ⟨X, n4, Y, m4, []⟩ (.slice A Y.length cap) (.slice none 0 0) ++ post) = pre ++ (ptV X n4 ++ ([.slice A Y.length cap, .int .u32 (m4 : Int), .slice none 0 0] ++ post)) := by simp [inV, ptV]
  rw [ei, Ho.out]
  exact hfin
open Go.RowKit
set_option linter.unusedVariables false
set_option linter.unusedSimpArgs false
set_option maxRecDepth 100000
def rOut (s : Option (List (BitVec 8))) : TOut := ⟨i64w (numV s 8), tL (numS s 8) 128⟩
/-- n outputs read of s: the error, the outputs, what is left. -/
def rO : Nat → Option (List (BitVec 8)) → Int × List TOut × Option (List (BitVec 8))
  | 0, s => (0, [], s)
  | n + 1, s => if tE (numS s 8) 128 = 0 then ((rO n (tS (numS s 8) 128)).1, rOut s :: (rO n (tS (numS s 8) 128)).2.1, (rO n (tS (numS s 8) 128)).2.2) else (tE (numS s 8) 128, [], tS (numS s 8) 128)
/-- Outputs' cells: each script is a slice of the program's own. -/
def OutsN (w : World) (vs : List Value) (ys : List TOut) : Prop := ∃ ss, SlNs w ss (ys.map TOut.sc) ∧ vs = (List.zipWith outV ys ss).flatten
theorem OutsN.nil (w : World) : OutsN w [] [] := ⟨[], SlNs.nil _, rfl⟩
theorem OutsN.snoc {w : World} {vs : List Value} {ys : List TOut} {v : Value} {y : TOut} (h : OutsN w vs ys) (hv : SlN w v y.sc) : OutsN w (vs ++ outV y v) (ys ++ [y]) := by
  obtain ⟨ss, hs, rfl⟩ := h
  refine ⟨ss ++ [v], by rw [List.map_append]; exact hs.snoc hv, ?_⟩
  have hl := hs.1
  rw [List.length_map] at hl
  rw [List.zipWith_append hl.symm]
  simp
theorem OutsN.fr {w w' : World} {vs : List Value} {ys : List TOut} {B b : Nat} {p : Option Nat} {s : Option (List (BitVec 8))} {T : TypeId} {us : List Value} (h : OutsN w vs ys) (hR : IsR w B p s) (hb : Blk w b T us) (hT : T ≠ 5) (hf : Fr w w' p (some b)) : OutsN w' vs ys := by
  obtain ⟨ss, hs, e⟩ := h
  exact ⟨ss, hs.fr hR hb hT hf, e⟩
def OutsPost (r : Int × List TOut × Option (List (BitVec 8))) (B rb : Nat) (p : Option Nat) (w0 : World) (w' : World) : Prop :=
  r.1 = 0 ∧ ∃ vs, OutsN w' vs r.2.1 ∧ Blk w' rb 71 vs ∧ IsR w' B p r.2.2 ∧ Fr w0 w' p (some rb)
theorem set_two (pre post : List Value) (a b x y : Value) (o : Nat) (ho : o = pre.length) : ((pre ++ (a :: b :: post)).set o x).set (o + 1) y = (pre ++ [x, y]) ++ post := by
  subst ho
  rw [List.set_append_right _ _ (Nat.le_refl _), Nat.sub_self]
  rw [List.set_append_right _ _ (by omega), show pre.length + 1 - pre.length = 1 by omega]
  simp
theorem outs_any (p : Option Nat) (s : Option (List (BitVec 8))) (B rb n cb cap : Nat) (w0 : World) (h : IsR w0 B p s) (hB : B ≤ w0.heap.size) (hl : Short s 100000000) (hc : Blk w0 cb 42 [ptr p]) (hr : Blk w0 rb 71 (List.replicate n [Value.int .i64 0, .slice none 0 0]).flatten) (hn : n ≤ 1000000) :
    Calls Try.prog 85 #[.slice (some ⟨rb, 0, none⟩) n cap, .func (.func 92) #[] #[.pointer (some ⟨cb, 0, none⟩)]] w0 (StepPost (OutsPost (rO n s) B rb p w0) (ErrPost (rO n s).1 (rO n s).2.2 B p (some rb) w0)) := by
  have hne : cb ≠ rb := hc.apart hr (by decide)
  refine (eachR_out (fun i w => ∃ (ys : List TOut) (s' : Option (List (BitVec 8))) (vs : List Value), vs.length = 2 * i ∧ rO n s = ((rO (n - i) s').1, ys ++ (rO (n - i) s').2.1, (rO (n - i) s').2.2) ∧ OutsN w vs ys ∧ Blk w rb 71 (vs ++ (List.replicate (n - i) [Value.int .i64 0, .slice none 0 0]).flatten) ∧ IsR w B p s' ∧ Fr w0 w p (some rb) ∧ Blk w cb 42 [ptr p] ∧ Short s' 100000000) (ErrPost (rO n s).1 (rO n s).2.2 B p (some rb) w0) (some ⟨rb, 0, none⟩) n cap rb 0 cb w0 (fun _ => rfl) hn ?_ ?_).mono ?_
  · rintro i hi wq ⟨ys, s', vs, hvl, hrO, hys, hb, hR, hF, hcb, hS⟩
    rw [Nat.zero_add]
    obtain ⟨k, hk⟩ : ∃ k, n - i = k + 1 := ⟨n - i - 1, by omega⟩
    have hk2 : n - (i + 1) = k := by omega
    rw [hk] at hrO hb
    rw [List.replicate_succ, List.flatten_cons] at hb
    refine (rdOut_any p s' B rb (i * 2) cb _ wq hR (Nat.le_trans hB hF.size) hS hcb hb (by simp; omega)).mono ?_
    rintro e w' ⟨v, rfl, hv, hb', hR', hF'⟩
    refine ⟨_, rfl, fun h0 => ?_, fun h0 => ?_⟩
    · rw [hk2]
      simp only [rO, h0, if_true] at hrO
      refine ⟨ys ++ [rOut s'], tS (numS s' 8) 128, vs ++ outV (rOut s') v, by simp [hvl, outV]; omega, ?_, (hys.fr hR hb (by decide) hF').snoc hv, ?_, hR', hF.trans hF', hcb.fr hF' (hR.ne hcb (by decide)) (fun e => hne (by injection e)), tS_short (numS_short hS _) _⟩
      · rw [hrO]; simp
      · have e1 := set_two vs (List.replicate k [Value.int .i64 0, .slice none 0 0]).flatten (.int .i64 0) (.slice none 0 0) (.int .i64 (i64w (numV s' 8))) v (i * 2) (by omega)
        have e2 : vs ++ ([Value.int .i64 0, .slice none 0 0] ++ (List.replicate k [Value.int .i64 0, .slice none 0 0]).flatten) = vs ++ (.int .i64 0 :: .slice none 0 0 :: (List.replicate k [Value.int .i64 0, .slice none 0 0]).flatten) := rfl
        rw [e2, e1] at hb'
        exact hb'
    · have e1 : rO n s = (tE (numS s' 8) 128, ys, tS (numS s' 8) 128) := by
        rw [hrO]; simp only [rO, h0, if_false, List.append_nil]
      rw [e1]
      exact ⟨rfl, hR', hF.trans hF'⟩
  · exact ⟨[], s, [], rfl, by simp, OutsN.nil _, by simpa using hr, h, Fr.refl _ _ _, hc, hl⟩
  · rintro e w' ⟨c, rfl, h0, h1⟩
    refine ⟨c, rfl, fun hc0 => ?_, h1⟩
    obtain ⟨ys, s', vs, hvl, hrO, hys, hb, hR, hF, _, _⟩ := h0 hc0
    rw [Nat.sub_self] at hrO hb
    simp only [rO, List.append_nil, List.replicate_zero, List.flatten_nil] at hrO hb
    rw [hrO]
    exact ⟨rfl, vs, hys, hb, hR, hF⟩
open Go.RowKit
set_option linter.unusedVariables false
set_option linter.unusedSimpArgs false
set_option maxRecDepth 100000
def In00 : TIn := ⟨Z32, 0, [], 0, []⟩
def zI0 : List Value := inV In00 (.slice none 0 0) (.slice none 0 0)
theorem zI0_len : zI0.length = 36 := inV_len rfl
theorem rInV_tx (s : Option (List (BitVec 8))) : (rInV s).tx.length = 32 := hashL_len s
/-- n inputs read of s, less their witnesses: the error, the inputs, what is left. -/
def rN : Nat → Option (List (BitVec 8)) → Int × List TIn × Option (List (BitVec 8))
  | 0, s => (0, [], s)
  | n + 1, s => if rInE s = 0 then ((rN n (rInS s)).1, rInV s :: (rN n (rInS s)).2.1, (rN n (rInS s)).2.2) else (rInE s, [], rInS s)
theorem rInS_short {s : Option (List (BitVec 8))} {k : Nat} (h : Short s k) : Short (rInS s) k := numS_short (tS_short (numS_short (cutS_short h _) _) _) _
/-- Inputs' cells, less their witnesses: each script is a slice of the program's own. -/
def InsN (w : World) (vs : List Value) (xs : List TIn) : Prop := ∃ ss, SlNs w ss (xs.map TIn.sc) ∧ vs = (List.zipWith (fun x u => inV x u (.slice none 0 0)) xs ss).flatten
theorem InsN.nil (w : World) : InsN w [] [] := ⟨[], SlNs.nil _, rfl⟩
theorem InsN.snoc {w : World} {vs : List Value} {xs : List TIn} {v : Value} {x : TIn} (h : InsN w vs xs) (hv : SlN w v x.sc) : InsN w (vs ++ inV x v (.slice none 0 0)) (xs ++ [x]) := by
  obtain ⟨ss, hs, rfl⟩ := h
  refine ⟨ss ++ [v], by rw [List.map_append]; exact hs.snoc hv, ?_⟩
  have hl := hs.1
  rw [List.length_map] at hl
  rw [List.zipWith_append hl.symm]
  simp
theorem InsN.fr {w w' : World} {vs : List Value} {xs : List TIn} {B b : Nat} {p : Option Nat} {s : Option (List (BitVec 8))} {T : TypeId} {us : List Value} (h : InsN w vs xs) (hR : IsR w B p s) (hb : Blk w b T us) (hT : T ≠ 5) (hf : Fr w w' p (some b)) : InsN w' vs xs := by
  obtain ⟨ss, hs, e⟩ := h
  exact ⟨ss, hs.fr hR hb hT hf, e⟩
def InsPost (r : Int × List TIn × Option (List (BitVec 8))) (B rb : Nat) (p : Option Nat) (w0 : World) (w' : World) : Prop :=
  r.1 = 0 ∧ ∃ vs, InsN w' vs r.2.1 ∧ Blk w' rb 69 vs ∧ IsR w' B p r.2.2 ∧ Fr w0 w' p (some rb)
theorem ins_any (p : Option Nat) (s : Option (List (BitVec 8))) (B rb n cb cap : Nat) (w0 : World) (h : IsR w0 B p s) (hB : B ≤ w0.heap.size) (hl : Short s 100000000) (hc : Blk w0 cb 42 [ptr p]) (hr : Blk w0 rb 69 (List.replicate n zI0).flatten) (hn : n ≤ 1000000) :
    Calls Try.prog 82 #[.slice (some ⟨rb, 0, none⟩) n cap, .func (.func 90) #[] #[.pointer (some ⟨cb, 0, none⟩)]] w0 (StepPost (InsPost (rN n s) B rb p w0) (ErrPost (rN n s).1 (rN n s).2.2 B p (some rb) w0)) := by
  have hne : cb ≠ rb := hc.apart hr (by decide)
  refine (eachR_in (fun i w => ∃ (ys : List TIn) (s' : Option (List (BitVec 8))) (vs : List Value), vs.length = 36 * i ∧ rN n s = ((rN (n - i) s').1, ys ++ (rN (n - i) s').2.1, (rN (n - i) s').2.2) ∧ InsN w vs ys ∧ Blk w rb 69 (vs ++ (List.replicate (n - i) zI0).flatten) ∧ IsR w B p s' ∧ Fr w0 w p (some rb) ∧ Blk w cb 42 [ptr p] ∧ Short s' 100000000) (ErrPost (rN n s).1 (rN n s).2.2 B p (some rb) w0) (some ⟨rb, 0, none⟩) n cap rb 0 cb w0 (fun _ => rfl) hn ?_ ?_).mono ?_
  · rintro i hi wq ⟨ys, s', vs, hvl, hrO, hys, hb, hR, hF, hcb, hS⟩
    obtain ⟨k, hk⟩ : ∃ k, n - i = k + 1 := ⟨n - i - 1, by omega⟩
    have hk2 : n - (i + 1) = k := by omega
    rw [hk] at hrO hb
    rw [List.replicate_succ, List.flatten_cons] at hb
    rw [show 0 + i * 36 = vs.length by omega]
    refine (rdIn_any p s' B rb cb In00 vs (List.replicate k zI0).flatten wq hR (Nat.le_trans hB hF.size) hS hcb rfl hb).mono ?_
    rintro e w' ⟨v, rfl, hv, hb', hR', hF'⟩
    refine ⟨_, rfl, fun h0 => ?_, fun h0 => ?_⟩
    · rw [hk2]
      simp only [rN, h0, if_true] at hrO
      refine ⟨ys ++ [rInV s'], rInS s', vs ++ inV (rInV s') v (.slice none 0 0), by rw [List.length_append, inV_len (rInV_tx s')]; omega, ?_, (hys.fr hR hb (by decide) hF').snoc hv, ?_, hR', hF.trans hF', hcb.fr hF' (hR.ne hcb (by decide)) (fun e => hne (by injection e)), rInS_short hS⟩
      · rw [hrO]; simp
      · rw [List.append_assoc]
        exact hb'
    · have e1 : rN n s = (rInE s', ys, rInS s') := by
        rw [hrO]; simp only [rN, h0, if_false, List.append_nil]
      rw [e1]
      exact ⟨rfl, hR', hF.trans hF'⟩
  · exact ⟨[], s, [], rfl, by simp, InsN.nil _, by simpa using hr, h, Fr.refl _ _ _, hc, hl⟩
  · rintro e w' ⟨c, rfl, h0, h1⟩
    refine ⟨c, rfl, fun hc0 => ?_, h1⟩
    obtain ⟨ys, s', vs, hvl, hrO, hys, hb, hR, hF, _, _⟩ := h0 hc0
    rw [Nat.sub_self] at hrO hb
    simp only [rN, List.append_nil, List.replicate_zero, List.flatten_nil] at hrO hb
    rw [hrO]
    exact ⟨rfl, vs, hys, hb, hR, hF⟩
open Go.RowKit
set_option linter.unusedVariables false
set_option linter.unusedSimpArgs false
set_option maxRecDepth 100000
theorem info57z : (Try.prog.info? 69).map (fun i => (i.zero, i.size)) = some (some (.agg zI0.toArray), 36) := by kernel_rfl
theorem info57b : (Try.prog.info? 69).all (fun i => decide (i.bytes ≤ 1000)) = true := by kernel_rfl
theorem range_flatten {α : Type} (f : Nat → α) (k : Nat) (L : List α) (hL : (List.range k).map f = L) (hp : ∀ i, f (k + i) = f i) : ∀ n, (List.range (n * k)).map f = (List.replicate n L).flatten
  | 0 => by simp
  | n + 1 => by
    rw [Nat.succ_mul, Nat.add_comm, List.range_add, List.map_append, hL, List.map_map, List.replicate_succ, List.flatten_cons, ← range_flatten f k L hL hp n]
    congr 1
    apply List.map_congr_left
    intro i _
    exact hp i
theorem made_in (n : Nat) (hn : n ≤ 16) : madeCells zI0.toArray (n * 36) = (List.replicate n zI0).flatten.toArray := by
  apply Array.toList_inj.1
  have hf : ∀ m, (madeCells zI0.toArray m).toList = (List.range m).map fun i => zI0.toArray[i % zI0.toArray.size]! := by
    intro m
    unfold madeCells
    rw [Array.toList_map, Array.toList_range]
  have hs : zI0.toArray.size = 36 := zI0_len
  rw [hf, range_flatten _ 36 zI0 (by kernel_rfl) (fun i => by rw [hs, Nat.add_mod_left]) n]
theorem make_in (n : Nat) (hn : n ≤ 16) (w : World) : (Instr.makeSlice 57 (.int .i64 (n : Int)) (.int .i64 (n : Int))).run Try.prog w = .ok (.slice (some ⟨w.heap.size, 0, none⟩) n n) (w.alloc (.cells (List.replicate n zI0).flatten.toArray 69)) := by
  obtain ⟨i0, hi, hz, hb⟩ : ∃ i, Try.prog.info? 69 = some i ∧ (i.zero, i.size) = (some (.agg zI0.toArray), 36) ∧ i.bytes ≤ 1000 := by
    have h1 := info57z
    have h2 := info57b
    cases h : Try.prog.info? 69 with
    | none => rw [h] at h1; cases h1
    | some i => rw [h] at h1 h2; exact ⟨i, rfl, by simpa using h1, by simpa using h2⟩
  injection hz with hz0 hz1
  have hbn : (i0.bytes : Int) * (n : Int) ≤ 281474976710656 := by
    have : i0.bytes * n ≤ 1000 * 16 := Nat.mul_le_mul hb hn
    have h2 : ((i0.bytes * n : Nat) : Int) ≤ 281474976710656 := by omega
    rwa [Int.natCast_mul] at h2
  have hr := run_make (P := Try.prog) w 57 69 i0 (.agg zI0.toArray) Try.underlying57 hi hz0 .i64 .i64 (n : Int) (n : Int) (by omega) (by omega) hbn (by omega)
  rw [hr, show ((n : Int)).toNat = n by omega, hz1, show (Value.agg zI0.toArray).cells = zI0.toArray from rfl, made_in n hn]
theorem pE0 {s : Option (List (BitVec 8))} (h : pE s = 0) : pN s ≤ 16 := by
  unfold pE at h
  by_cases hg : gE s 16 = 0
  · have := gE_ne s 16 hg
    unfold pN gV
    rw [if_pos hg]
    exact this
  · rw [if_neg hg] at h; exact absurd h hg
theorem rN_len : ∀ (n : Nat) (s : Option (List (BitVec 8))), (rN n s).1 = 0 → (rN n s).2.1.length = n
  | 0, _, _ => rfl
  | n + 1, s, h => by
    by_cases h0 : rInE s = 0
    · simp only [rN, h0, if_true] at h ⊢
      simp [rN_len n _ h]
    · simp only [rN, h0, if_false] at h
/-- The inputs that s begins with, with their number ahead. -/
def rIns (s : Option (List (BitVec 8))) : Int × List TIn × Option (List (BitVec 8)) := if pE s = 0 then rN (pN s) (gS s) else (pE s, [], gS s)
def InsOut (r : Int × List TIn × Option (List (BitVec 8))) (B : Nat) (p : Option Nat) (w : World) (e : Ending) (w' : World) : Prop :=
  ∃ A n cap c, e = .returned (.tuple #[.slice A n cap, .int .i64 c]) ∧ r.1 = c ∧ IsR w' B p r.2.2 ∧ w.grownBy w' p ∧ (c = 0 → ∃ rb vs, A = some ⟨rb, 0, none⟩ ∧ r.2.1.length = n ∧ cap = n ∧ InsN w' vs r.2.1 ∧ Blk w' rb 69 vs ∧ w.heap.size ≤ rb)
set_option maxHeartbeats 1000000 in
theorem parsedIns_any (p : Option Nat) (s : Option (List (BitVec 8))) (B : Nat) (w : World) (h : IsR w B p s) (hB : B ≤ w.heap.size) (hl : Short s 100000000) :
    Calls Try.prog 72 #[ptr p] w (InsOut (rIns s) B p w) := by
  obtain ⟨q, hP⟩ : ∃ q, Value.pointer q = ptr p := ⟨_, rfl⟩
  have hW : Below w.heap.size w (w.alloc (.cells #[.pointer q] 42)) := (Below.refl _ _).alloc (Nat.le_refl _) _
  have hcb := Blk.new w 42 #[.pointer q]
  have c0 := hcb.cell (j := 0) (v := .pointer q) rfl
  have hA := h.below hW hB
  have K := Lib.hid (parsedCount_any p s B _ hA (Nat.le_trans hB hW.size))
  have HNc := Lib.hid (hA.ne hcb (by decide))
  have HC := Lib.hid hcb
  have HB := Lib.hid hB
  have HL := Lib.hid (gS_short hl)
  have HP := Lib.hid hP
  have HFA : Hid (w.grownBy (w.alloc (.cells #[.pointer q] 42)) p) := ⟨hW.os, hW.tape, hW.output, hW.size, fun k hk _ => hW.block k hk⟩
  rw [← hP] at K ⊢
  by_cases he : pE s = 0
  · have hn := pE0 he
    have eW : rIns s = rN (pN s) (gS s) := by unfold rIns; rw [if_pos he]
    rw [eW]
    rw [he] at K
    obtain ⟨n, hnn⟩ : ∃ n, n = pN s := ⟨_, rfl⟩
    obtain ⟨s1, hs1⟩ : ∃ s', s' = gS s := ⟨_, rfl⟩
    rw [← hnn, ← hs1] at K ⊢
    rw [← hnn] at hn
    rw [← hs1] at HL
    have HLn := Lib.hid (rN_len n s1)
    obtain ⟨C, hC⟩ : ∃ C, C = (List.replicate n zI0).flatten.toArray := ⟨_, rfl⟩
    have hM := make_in n hn
    rw [← hC] at hM
    have HN := Lib.hid hn
    have HCe : Hid (C.toList = (List.replicate n zI0).flatten) := by rw [hC]; rfl
    clear h hB hl hA hW hcb he eW hnn hs1 hC hn hP
    go_enter Try.func72, Try.ntmps72
    go_wp2_with (first
      | (go_at_call 82; go_loud ((with_reducible refine K2.out.mono ?_); rintro e w2 hpost; have HPo := Lib.hid hpost; obtain ⟨c, rfl, _, _⟩ := hpost; clear K2; dsimp only))
      | (go_at_call 89; go_loud ((with_reducible refine K.out.mono ?_); rintro e w1 ⟨rfl, hi, hg⟩; have hc1 := HC.out.grown hg HNc.out; have hBw1 : B ≤ w1.heap.size := Nat.le_trans HB.out (Nat.le_trans HFA.out.size hg.size); have c1 := hc1.cell (j := 0) (v := .pointer q) rfl; have hb1 : Below w1.heap.size w1 (w1.alloc (.cells C 69)) := (Below.refl _ _).alloc (Nat.le_refl _) _; have hnew := Blk.new w1 69 C; have hcA := hc1.alloc (.cells C 69); have hiA := hi.below hb1 hBw1; have K2 := Lib.hid (ins_any p s1 B w1.heap.size n w.heap.size n _ hiA (Nat.le_trans hBw1 hb1.size) HL.out (by rw [← HP.out]; exact hcA) (by rw [← HCe.out]; exact hnew) (by have := HN.out; omega)); have HG := Lib.hid (Eq.refl w1); have HF : Hid (w.grownBy (w1.alloc (.cells C 69)) p) := ⟨hb1.os.trans (hg.os.trans HFA.out.os), hb1.tape.trans (hg.tape.trans HFA.out.tape), hb1.output.trans (hg.output.trans HFA.out.output), Nat.le_trans (Nat.le_trans HFA.out.size hg.size) hb1.size, fun k hk hp => (hb1.block k (Nat.lt_of_lt_of_le hk (Nat.le_trans HFA.out.size hg.size))).trans ((hg.block k (Nat.lt_of_lt_of_le hk HFA.out.size) hp).trans (HFA.out.block k hk hp))⟩; have HSz := Lib.hid (Nat.le_trans HFA.out.size hg.size); clear hi hg hc1 hb1 hnew hcA hiA K c0; dsimp only)))
    go_ret2
    obtain ⟨c', ec, h0, h1⟩ := HPo.out
    obtain rfl : c = c' := by injection ec with ec; injection ec
    by_cases hc : c = 0
    · obtain ⟨hr0, vs, hsl, hb, hR, hF⟩ := h0 hc
      exact ⟨_, _, _, c, rfl, by rw [hr0, hc], hR, Fr.grown HF.out hF HSz.out, fun _ => ⟨w1.heap.size, vs, rfl, HLn.out hr0, rfl, hsl, hb, HSz.out⟩⟩
    · obtain ⟨hr0, hR, hF⟩ := h1 hc
      exact ⟨_, _, _, c, rfl, hr0, hR, Fr.grown HF.out hF HSz.out, fun h => absurd h hc⟩
  · have eW : rIns s = (pE s, [], gS s) := by unfold rIns; rw [if_neg he]
    rw [eW]
    obtain ⟨c, hcE⟩ : ∃ c, c = pE s := ⟨_, rfl⟩
    rw [← hcE] at K he ⊢
    obtain ⟨s1, hs1⟩ : ∃ s', s' = gS s := ⟨_, rfl⟩
    rw [← hs1] at K ⊢
    obtain ⟨n, hnn⟩ : ∃ n, n = pN s := ⟨_, rfl⟩
    rw [← hnn] at K
    have hc0 : (c != 0) = true := by simpa using he
    have HE := Lib.hid he
    clear h hB hl hA hW hcb he eW hcE hs1 hnn hP
    go_enter Try.func72, Try.ntmps72
    go_wp2_with (go_at_call 89; (with_reducible refine K.out.mono ?_); rintro e w1 ⟨rfl, hi, hg⟩; have HI := Lib.hid hi; have HG : Hid (w.grownBy w1 p) := (grown_trans HFA.out hg); clear hi hg K c0; dsimp only)
    go_ret2
    exact ⟨_, _, _, c, rfl, rfl, HI.out, HG.out, fun h => absurd h HE.out⟩
open Go.RowKit
set_option linter.unusedVariables false
set_option linter.unusedSimpArgs false
set_option maxRecDepth 100000
def zOut : List Value := [.int .i64 0, .slice none 0 0]
theorem zOut_len : zOut.length = 2 := rfl
theorem info43z : (Try.prog.info? 71).map (fun i => (i.zero, i.size)) = some (some (.agg zOut.toArray), 2) := by kernel_rfl
theorem info43b : (Try.prog.info? 71).all (fun i => decide (i.bytes ≤ 1000)) = true := by kernel_rfl
theorem made_out (n : Nat) (hn : n ≤ 16) : madeCells zOut.toArray (n * 2) = (List.replicate n zOut).flatten.toArray := by
  apply Array.toList_inj.1
  have hf : ∀ m, (madeCells zOut.toArray m).toList = (List.range m).map fun i => zOut.toArray[i % zOut.toArray.size]! := by
    intro m
    unfold madeCells
    rw [Array.toList_map, Array.toList_range]
  have hs : zOut.toArray.size = 2 := zOut_len
  rw [hf, range_flatten _ 2 zOut (by kernel_rfl) (fun i => by rw [hs, Nat.add_mod_left]) n]
theorem make_out (n : Nat) (hn : n ≤ 16) (w : World) : (Instr.makeSlice 58 (.int .i64 (n : Int)) (.int .i64 (n : Int))).run Try.prog w = .ok (.slice (some ⟨w.heap.size, 0, none⟩) n n) (w.alloc (.cells (List.replicate n zOut).flatten.toArray 71)) := by
  obtain ⟨i0, hi, hz, hb⟩ : ∃ i, Try.prog.info? 71 = some i ∧ (i.zero, i.size) = (some (.agg zOut.toArray), 2) ∧ i.bytes ≤ 1000 := by
    have h1 := info43z
    have h2 := info43b
    cases h : Try.prog.info? 71 with
    | none => rw [h] at h1; cases h1
    | some i => rw [h] at h1 h2; exact ⟨i, rfl, by simpa using h1, by simpa using h2⟩
  injection hz with hz0 hz1
  have hbn : (i0.bytes : Int) * (n : Int) ≤ 281474976710656 := by
    have : i0.bytes * n ≤ 1000 * 16 := Nat.mul_le_mul hb hn
    have h2 : ((i0.bytes * n : Nat) : Int) ≤ 281474976710656 := by omega
    rwa [Int.natCast_mul] at h2
  have hr := run_make (P := Try.prog) w 58 71 i0 (.agg zOut.toArray) Try.underlying58 hi hz0 .i64 .i64 (n : Int) (n : Int) (by omega) (by omega) hbn (by omega)
  rw [hr, show ((n : Int)).toNat = n by omega, hz1, show (Value.agg zOut.toArray).cells = zOut.toArray from rfl, made_out n hn]
theorem rO_len : ∀ (n : Nat) (s : Option (List (BitVec 8))), (rO n s).1 = 0 → (rO n s).2.1.length = n
  | 0, _, _ => rfl
  | n + 1, s, h => by
    by_cases h0 : tE (numS s 8) 128 = 0
    · simp only [rO, h0, if_true] at h ⊢
      simp [rO_len n _ h]
    · simp only [rO, h0, if_false] at h
/-- The outputs that s begins with, with their number ahead. -/
def rOuts (s : Option (List (BitVec 8))) : Int × List TOut × Option (List (BitVec 8)) := if pE s = 0 then rO (pN s) (gS s) else (pE s, [], gS s)
def OutsOut (r : Int × List TOut × Option (List (BitVec 8))) (B : Nat) (p : Option Nat) (w : World) (e : Ending) (w' : World) : Prop :=
  ∃ A n cap c, e = .returned (.tuple #[.slice A n cap, .int .i64 c]) ∧ r.1 = c ∧ IsR w' B p r.2.2 ∧ w.grownBy w' p ∧ (c = 0 → ∃ rb vs, A = some ⟨rb, 0, none⟩ ∧ r.2.1.length = n ∧ cap = n ∧ OutsN w' vs r.2.1 ∧ Blk w' rb 71 vs ∧ w.heap.size ≤ rb)
set_option maxHeartbeats 1000000 in
theorem parsedOuts_any (p : Option Nat) (s : Option (List (BitVec 8))) (B : Nat) (w : World) (h : IsR w B p s) (hB : B ≤ w.heap.size) (hl : Short s 100000000) :
    Calls Try.prog 73 #[ptr p] w (OutsOut (rOuts s) B p w) := by
  obtain ⟨q, hP⟩ : ∃ q, Value.pointer q = ptr p := ⟨_, rfl⟩
  have hW : Below w.heap.size w (w.alloc (.cells #[.pointer q] 42)) := (Below.refl _ _).alloc (Nat.le_refl _) _
  have hcb := Blk.new w 42 #[.pointer q]
  have c0 := hcb.cell (j := 0) (v := .pointer q) rfl
  have hA := h.below hW hB
  have K := Lib.hid (parsedCount_any p s B _ hA (Nat.le_trans hB hW.size))
  have HNc := Lib.hid (hA.ne hcb (by decide))
  have HC := Lib.hid hcb
  have HB := Lib.hid hB
  have HL := Lib.hid (gS_short hl)
  have HP := Lib.hid hP
  have HFA : Hid (w.grownBy (w.alloc (.cells #[.pointer q] 42)) p) := ⟨hW.os, hW.tape, hW.output, hW.size, fun k hk _ => hW.block k hk⟩
  rw [← hP] at K ⊢
  by_cases he : pE s = 0
  · have hn := pE0 he
    have eW : rOuts s = rO (pN s) (gS s) := by unfold rOuts; rw [if_pos he]
    rw [eW]
    rw [he] at K
    obtain ⟨n, hnn⟩ : ∃ n, n = pN s := ⟨_, rfl⟩
    obtain ⟨s1, hs1⟩ : ∃ s', s' = gS s := ⟨_, rfl⟩
    rw [← hnn, ← hs1] at K ⊢
    rw [← hnn] at hn
    rw [← hs1] at HL
    have HLn := Lib.hid (rO_len n s1)
    obtain ⟨C, hC⟩ : ∃ C, C = (List.replicate n zOut).flatten.toArray := ⟨_, rfl⟩
    have hM := make_out n hn
    rw [← hC] at hM
    have HN := Lib.hid hn
    have HCe : Hid (C.toList = (List.replicate n zOut).flatten) := by rw [hC]; rfl
    clear h hB hl hA hW hcb he eW hnn hs1 hC hn hP
    go_enter Try.func73, Try.ntmps73
    go_wp2_with (first
      | (go_at_call 85; go_loud ((with_reducible refine K2.out.mono ?_); rintro e w2 hpost; have HPo := Lib.hid hpost; obtain ⟨c, rfl, _, _⟩ := hpost; clear K2; dsimp only))
      | (go_at_call 89; go_loud ((with_reducible refine K.out.mono ?_); rintro e w1 ⟨rfl, hi, hg⟩; have hc1 := HC.out.grown hg HNc.out; have hBw1 : B ≤ w1.heap.size := Nat.le_trans HB.out (Nat.le_trans HFA.out.size hg.size); have c1 := hc1.cell (j := 0) (v := .pointer q) rfl; have hb1 : Below w1.heap.size w1 (w1.alloc (.cells C 71)) := (Below.refl _ _).alloc (Nat.le_refl _) _; have hnew := Blk.new w1 71 C; have hcA := hc1.alloc (.cells C 71); have hiA := hi.below hb1 hBw1; have K2 := Lib.hid (outs_any p s1 B w1.heap.size n w.heap.size n _ hiA (Nat.le_trans hBw1 hb1.size) HL.out (by rw [← HP.out]; exact hcA) (by have hz := hnew; rw [HCe.out] at hz; exact hz) (by have := HN.out; omega)); have HG := Lib.hid (Eq.refl w1); have HF : Hid (w.grownBy (w1.alloc (.cells C 71)) p) := ⟨hb1.os.trans (hg.os.trans HFA.out.os), hb1.tape.trans (hg.tape.trans HFA.out.tape), hb1.output.trans (hg.output.trans HFA.out.output), Nat.le_trans (Nat.le_trans HFA.out.size hg.size) hb1.size, fun k hk hp => (hb1.block k (Nat.lt_of_lt_of_le hk (Nat.le_trans HFA.out.size hg.size))).trans ((hg.block k (Nat.lt_of_lt_of_le hk HFA.out.size) hp).trans (HFA.out.block k hk hp))⟩; have HSz := Lib.hid (Nat.le_trans HFA.out.size hg.size); clear hi hg hc1 hb1 hnew hcA hiA K c0; dsimp only)))
    go_ret2
    obtain ⟨c', ec, h0, h1⟩ := HPo.out
    obtain rfl : c = c' := by injection ec with ec; injection ec
    by_cases hc : c = 0
    · obtain ⟨hr0, vs, hsl, hb, hR, hF⟩ := h0 hc
      exact ⟨_, _, _, c, rfl, by rw [hr0, hc], hR, Fr.grown HF.out hF HSz.out, fun _ => ⟨w1.heap.size, vs, rfl, HLn.out hr0, rfl, hsl, hb, HSz.out⟩⟩
    · obtain ⟨hr0, hR, hF⟩ := h1 hc
      exact ⟨_, _, _, c, rfl, hr0, hR, Fr.grown HF.out hF HSz.out, fun h => absurd h hc⟩
  · have eW : rOuts s = (pE s, [], gS s) := by unfold rOuts; rw [if_neg he]
    rw [eW]
    obtain ⟨c, hcE⟩ : ∃ c, c = pE s := ⟨_, rfl⟩
    rw [← hcE] at K he ⊢
    obtain ⟨s1, hs1⟩ : ∃ s', s' = gS s := ⟨_, rfl⟩
    rw [← hs1] at K ⊢
    obtain ⟨n, hnn⟩ : ∃ n, n = pN s := ⟨_, rfl⟩
    rw [← hnn] at K
    have hc0 : (c != 0) = true := by simpa using he
    have HE := Lib.hid he
    clear h hB hl hA hW hcb he eW hcE hs1 hnn hP
    go_enter Try.func73, Try.ntmps73
    go_wp2_with (go_at_call 89; (with_reducible refine K.out.mono ?_); rintro e w1 ⟨rfl, hi, hg⟩; have HI := Lib.hid hi; have HG : Hid (w.grownBy w1 p) := (grown_trans HFA.out hg); clear hi hg K c0; dsimp only)
    go_ret2
    exact ⟨_, _, _, c, rfl, rfl, HI.out, HG.out, fun h => absurd h HE.out⟩
open Go.RowKit
set_option linter.unusedVariables false
set_option linter.unusedSimpArgs false
set_option maxRecDepth 100000
/-- A witness: none yet, or slices of the program's own. -/
def WitN (w : World) (u : Value) (Ls : List (List (BitVec 8))) : Prop := (u = .slice none 0 0 ∧ Ls = []) ∨ WsN w u Ls
/-- An input's cells lead to what is the program's own. -/
def InN (w : World) (x : TIn) (v u : Value) : Prop := SlN w v x.sc ∧ WitN w u x.wt
def InsW (w : World) : List TIn → List Value → Prop
  | [], vs => vs = []
  | x :: xs, vs => ∃ v u r, vs = inV x v u ++ r ∧ InN w x v u ∧ InsW w xs r
theorem WsN.fr {w w' : World} {u : Value} {Ls : List (List (BitVec 8))} {B b : Nat} {p : Option Nat} {s : Option (List (BitVec 8))} {T : TypeId} {us : List Value} (h : WsN w u Ls) (hR : IsR w B p s) (hb : Blk w b T us) (hT : T ≠ 5) (hT2 : T ≠ 22) (hf : Fr w w' p (some b)) : WsN w' u Ls := by
  obtain ⟨ib, vs, e, hi, hs⟩ := h
  exact ⟨ib, vs, e, hi.fr hf (hR.ne hi (by decide)) (fun e => by injection e with e; exact (hi.apart hb (fun e => hT2 e.symm)) e), hs.fr hR hb hT hf⟩
theorem InN.fr {w w' : World} {x : TIn} {v u : Value} {B b : Nat} {p : Option Nat} {s : Option (List (BitVec 8))} {T : TypeId} {us : List Value} (h : InN w x v u) (hR : IsR w B p s) (hb : Blk w b T us) (hT : T ≠ 5) (hT2 : T ≠ 22) (hf : Fr w w' p (some b)) : InN w' x v u :=
  ⟨h.1.fr hR hb hT hf, h.2.imp id fun h => h.fr hR hb hT hT2 hf⟩
theorem InsW.fr {w w' : World} {B b : Nat} {p : Option Nat} {s : Option (List (BitVec 8))} {T : TypeId} {us : List Value} (hR : IsR w B p s) (hb : Blk w b T us) (hT : T ≠ 5) (hT2 : T ≠ 22) (hf : Fr w w' p (some b)) : ∀ {xs : List TIn} {vs : List Value}, InsW w xs vs → InsW w' xs vs
  | [], _, h => h
  | x :: xs, _, ⟨v, u, r, e, hi, hr⟩ => ⟨v, u, r, e, hi.fr hR hb hT hT2 hf, InsW.fr hR hb hT hT2 hf hr⟩
theorem InsW.app {w : World} : ∀ {xs ys : List TIn} {vs ws : List Value}, InsW w xs vs → InsW w ys ws → InsW w (xs ++ ys) (vs ++ ws)
  | [], _, _, _, h, h2 => by cases h; exact h2
  | x :: xs, ys, _, ws, ⟨v, u, r, e, hi, hr⟩, h2 => ⟨v, u, r ++ ws, by rw [e, List.append_assoc], hi, hr.app h2⟩
theorem InsW.len {w : World} : ∀ {xs : List TIn} {vs : List Value}, (∀ x ∈ xs, x.tx.length = 32) → InsW w xs vs → vs.length = 36 * xs.length
  | [], _, _, h => by cases h; rfl
  | x :: xs, _, h32, ⟨v, u, r, e, hi, hr⟩ => by
    rw [e, List.length_append, inV_len (h32 x (by simp)), hr.len (fun y hy => h32 y (by simp [hy])), List.length_cons]; omega
theorem SlNs.cons {w : World} {v : Value} {vs : List Value} {L : List (BitVec 8)} {Ls : List (List (BitVec 8))} (h : SlNs w (v :: vs) (L :: Ls)) : SlN w v L ∧ SlNs w vs Ls :=
  ⟨h.2 0 v rfl, by have := h.1; simpa using this, fun j u hj => h.2 (j + 1) u hj⟩
theorem InsW.of {w : World} : ∀ (xs : List TIn) (ss : List Value), SlNs w ss (xs.map TIn.sc) → (∀ x ∈ xs, x.wt = []) → InsW w xs (List.zipWith (fun x u => inV x u (.slice none 0 0)) xs ss).flatten
  | [], _, _, _ => by simp [InsW]
  | x :: xs, [], h, _ => by have := h.1; simp at this
  | x :: xs, s :: ss, h, hw => by
    obtain ⟨h1, h2⟩ := SlNs.cons h
    exact ⟨s, .slice none 0 0, _, by simp, ⟨h1, Or.inl ⟨rfl, hw x (by simp)⟩⟩, InsW.of xs ss h2 fun y hy => hw y (by simp [hy])⟩
theorem InsN.w {w : World} {vs : List Value} {xs : List TIn} (h : InsN w vs xs) (hw : ∀ x ∈ xs, x.wt = []) : InsW w xs vs := by
  obtain ⟨ss, hs, rfl⟩ := h
  exact InsW.of xs ss hs hw
theorem rI_short {k : Nat} : ∀ (n : Nat) (s : Option (List (BitVec 8))), Short s k → Short (rI n s).2.2 k
  | 0, _, h => h
  | n + 1, s, h => by
    by_cases h0 : tE s 128 = 0
    · simp only [rI, h0, if_true]; exact rI_short n _ (tS_short h _)
    · simp only [rI, h0, if_false]; exact tS_short h _
theorem rW_short {s : Option (List (BitVec 8))} {k : Nat} (h : Short s k) : Short (rW s).2.2 k := by
  unfold rW
  split
  · exact rI_short _ _ (gS_short h)
  · exact gS_short h
/-- The witnesses of n inputs read of s: the error, the witnesses, what is left. -/
def rX : Nat → Option (List (BitVec 8)) → Int × List (List (List (BitVec 8))) × Option (List (BitVec 8))
  | 0, s => (0, [], s)
  | n + 1, s => if (rW s).1 = 0 then ((rX n (rW s).2.2).1, (rW s).2.1 :: (rX n (rW s).2.2).2.1, (rX n (rW s).2.2).2.2) else ((rW s).1, [], (rW s).2.2)
def wW (xs : List TIn) (Ls : List (List (List (BitVec 8)))) : List TIn := List.zipWith (fun x L => ⟨x.tx, x.ix, x.sc, x.sq, L⟩) xs Ls
theorem wW_len (xs : List TIn) (Ls : List (List (List (BitVec 8)))) : (wW xs Ls).length = min xs.length Ls.length := by simp [wW]
theorem wW_32 : ∀ (xs : List TIn) (Ls : List (List (List (BitVec 8)))), (∀ x ∈ xs, x.tx.length = 32) → ∀ x ∈ wW xs Ls, x.tx.length = 32
  | [], _, _, x, hx => by simp [wW] at hx
  | _ :: _, [], _, x, hx => by simp [wW] at hx
  | y :: ys, L :: Ls, h, x, hx => by
    have hx : x ∈ (⟨y.tx, y.ix, y.sc, y.sq, L⟩ : TIn) :: wW ys Ls := hx
    rcases List.mem_cons.1 hx with rfl | hx
    · exact h y (by simp)
    · exact wW_32 ys Ls (fun z hz => h z (by simp [hz])) x hx
theorem set35 (pre post : List Value) (x : TIn) (v u u' : Value) (o : Nat) (ho : o = pre.length) (h : x.tx.length = 32) : (pre ++ (inV x v u ++ post)).set (o + 35) u' = pre ++ (inV x v u' ++ post) := by
  subst ho
  rw [List.set_append_right _ _ (by omega), show pre.length + 35 - pre.length = 35 by omega]
  unfold inV
  rw [List.append_assoc, List.append_assoc, List.set_append_right _ _ (by rw [vbs_len, h]; omega), vbs_len, h]
  rfl
def XPost (r : Int × List (List (List (BitVec 8))) × Option (List (BitVec 8))) (xs : List TIn) (B rb : Nat) (p : Option Nat) (w0 : World) (w' : World) : Prop :=
  r.1 = 0 ∧ r.2.1.length = xs.length ∧ ∃ vs, InsW w' (wW xs r.2.1) vs ∧ Blk w' rb 69 vs ∧ IsR w' B p r.2.2 ∧ Fr w0 w' p (some rb)
theorem witsR_any (p : Option Nat) (s : Option (List (BitVec 8))) (B rb n cb cap : Nat) (xs : List TIn) (vs0 : List Value) (w0 : World) (h : IsR w0 B p s) (hB : B ≤ w0.heap.size) (hl : Short s 100000000) (hc : Blk w0 cb 42 [ptr p]) (hr : Blk w0 rb 69 vs0) (hx : InsW w0 xs vs0) (hxn : xs.length = n) (hn : n ≤ 1000000) (h32 : ∀ x ∈ xs, x.tx.length = 32) :
    Calls Try.prog 82 #[.slice (some ⟨rb, 0, none⟩) n cap, .func (.func 93) #[] #[.pointer (some ⟨cb, 0, none⟩)]] w0 (StepPost (XPost (rX n s) xs B rb p w0) (ErrPost (rX n s).1 (rX n s).2.2 B p (some rb) w0)) := by
  have hne : cb ≠ rb := hc.apart hr (by decide)
  refine (eachR_wit (fun i w => ∃ (Ls : List (List (List (BitVec 8)))) (s' : Option (List (BitVec 8))) (vs ws : List Value), Ls.length = i ∧ rX n s = ((rX (n - i) s').1, Ls ++ (rX (n - i) s').2.1, (rX (n - i) s').2.2) ∧ InsW w (wW (xs.take i) Ls) vs ∧ InsW w (xs.drop i) ws ∧ vs.length = 36 * i ∧ Blk w rb 69 (vs ++ ws) ∧ IsR w B p s' ∧ Fr w0 w p (some rb) ∧ Blk w cb 42 [ptr p] ∧ Short s' 100000000) (ErrPost (rX n s).1 (rX n s).2.2 B p (some rb) w0) (some ⟨rb, 0, none⟩) n cap rb 0 cb w0 (fun _ => rfl) hn ?_ ?_).mono ?_
  · rintro i hi wq ⟨Ls, s', vs, ws, hLl, hrX, hvs, hws, hvl, hb, hR, hF, hcb, hS⟩
    obtain ⟨k, hk⟩ : ∃ k, n - i = k + 1 := ⟨n - i - 1, by omega⟩
    have hk2 : n - (i + 1) = k := by omega
    rw [hk] at hrX
    have hd := List.drop_eq_getElem_cons (show i < xs.length by omega)
    obtain ⟨x, hxx⟩ : ∃ x, x = xs[i]'(by omega) := ⟨_, rfl⟩
    rw [← hxx] at hd
    have hx32 : x.tx.length = 32 := h32 x (by rw [hxx]; exact List.getElem_mem _)
    rw [hd] at hws
    obtain ⟨v, u, r, rfl, hin, hrs⟩ := hws
    rw [show 0 + i * 36 = 36 * i by omega]
    refine (rdWit_any p s' B rb (36 * i) cb _ wq hR (Nat.le_trans hB hF.size) hS hcb hb (by rw [List.length_append, List.length_append, inV_len hx32]; omega)).mono ?_
    rintro e w' ⟨c, rfl, h0, h1⟩
    refine ⟨c, rfl, fun hc0 => ?_, fun hc0 => ?_⟩
    · obtain ⟨hr0, u', hu, hb', hR', hF'⟩ := h0 hc0
      rw [set35 _ _ _ _ _ _ _ hvl.symm hx32] at hb'
      rw [hk2]
      simp only [rX, hr0, if_true] at hrX
      refine ⟨Ls ++ [(rW s').2.1], (rW s').2.2, vs ++ inV ⟨x.tx, x.ix, x.sc, x.sq, (rW s').2.1⟩ v u', r, by simp [hLl], ?_, ?_, InsW.fr hR hb (by decide) (by decide) hF' hrs, by rw [List.length_append, inV_len (by exact hx32)]; omega, by rw [List.append_assoc]; exact hb', hR', hF.trans hF', hcb.fr hF' (hR.ne hcb (by decide)) (fun e => hne (by injection e)), rW_short hS⟩
      · rw [hrX]; simp
      · have e1 : wW (xs.take (i + 1)) (Ls ++ [(rW s').2.1]) = wW (xs.take i) Ls ++ [⟨x.tx, x.ix, x.sc, x.sq, (rW s').2.1⟩] := by
          rw [List.take_succ_eq_append_getElem (show i < xs.length by omega), ← hxx]
          unfold wW
          rw [List.zipWith_append (by rw [List.length_take]; omega)]
          simp
        rw [e1]
        refine (InsW.fr hR hb (by decide) (by decide) hF' hvs).app ⟨v, u', [], by simp, ⟨(hin.1.fr hR hb (by decide) hF'), Or.inr hu⟩, rfl⟩
    · obtain ⟨hr0, hR', hF'⟩ := h1 hc0
      have hne0 : ¬ (rW s').1 = 0 := by rw [hr0]; exact hc0
      have e1 : rX n s = ((rW s').1, Ls, (rW s').2.2) := by
        rw [hrX]; simp only [rX, hne0, if_false, List.append_nil]
      rw [e1]
      exact ⟨hr0, hR', hF.trans hF'⟩
  · refine ⟨[], s, [], vs0, rfl, by simp, ?_, by simpa using hx, rfl, by simpa using hr, h, Fr.refl _ _ _, hc, hl⟩
    simp [wW, InsW]
  · rintro e w' ⟨c, rfl, h0, h1⟩
    refine ⟨c, rfl, fun hc0 => ?_, h1⟩
    obtain ⟨Ls, s', vs, ws, hLl, hrX, hvs, hws, hvl, hb, hR, hF, _, _⟩ := h0 hc0
    rw [Nat.sub_self] at hrX
    simp only [rX, List.append_nil] at hrX
    rw [List.drop_eq_nil_of_le (by omega)] at hws
    cases hws
    rw [List.append_nil] at hb
    rw [List.take_of_length_le (by omega)] at hvs
    rw [hrX]
    exact ⟨rfl, by rw [hLl, hxn], vs, hvs, hb, hR, hF⟩
set_option maxHeartbeats 1000000 in
theorem parseWits_any (p : Option Nat) (s : Option (List (BitVec 8))) (B rb n cap : Nat) (xs : List TIn) (vs0 : List Value) (w : World) (h : IsR w B p s) (hB : B ≤ w.heap.size) (hl : Short s 100000000) (hr : Blk w rb 69 vs0) (hx : InsW w xs vs0) (hxn : xs.length = n) (hn : n ≤ 1000000) (h32 : ∀ x ∈ xs, x.tx.length = 32) :
    Calls Try.prog 74 #[ptr p, .slice (some ⟨rb, 0, none⟩) n cap] w (StepPost (XPost (rX n s) xs B rb p w) (ErrPost (rX n s).1 (rX n s).2.2 B p (some rb) w)) := by
  obtain ⟨q, hP⟩ : ∃ q, Value.pointer q = ptr p := ⟨_, rfl⟩
  have hW : Below w.heap.size w (w.alloc (.cells #[.pointer q] 42)) := (Below.refl _ _).alloc (Nat.le_refl _) _
  have hFW : Fr w (w.alloc (.cells #[.pointer q] 42)) p (some rb) := ⟨hW.os, hW.tape, hW.output, hW.size, fun k hk _ _ => hW.block k hk⟩
  have hcb := Blk.new w 42 #[.pointer q]
  have K := Lib.hid (witsR_any p s B rb n w.heap.size cap xs vs0 _ (h.below hW hB) (Nat.le_trans hB hW.size) hl (by rw [← hP]; exact hcb) (hr.alloc _) (InsW.fr h hr (by decide) (by decide) hFW hx) hxn hn h32)
  have HF := Lib.hid hFW
  rw [← hP]
  clear h hB hl hr hx hxn hn h32 hW hFW hcb hP
  go_enter Try.func74, Try.ntmps74
  go_wp2_with (go_at_call 82; (with_reducible refine K.out.mono ?_); rintro e w1 ⟨c, rfl, h0, h1⟩; have H0 := Lib.hid h0; have H1 := Lib.hid h1; clear h0 h1 K; dsimp only)
  go_ret
  refine ⟨c, rfl, fun hc => ?_, fun hc => ?_⟩
  · obtain ⟨a, b, vs, d, e, f, g⟩ := H0.out hc
    exact ⟨a, b, vs, d, e, f, HF.out.trans g⟩
  · obtain ⟨a, b, g⟩ := H1.out hc
    exact ⟨a, b, HF.out.trans g⟩
open Go.RowKit
set_option linter.unusedVariables false
set_option linter.unusedSimpArgs false
set_option maxRecDepth 100000
theorem below_dN {B : Nat} {w w' : World} (h : Below B w w') (k : Nat) : Below B w (w'.drewN k) := ⟨h.os, h.tape, h.output, h.size, h.block⟩
theorem Bt_inj {x y : BitVec 8} : Bt x = Bt y ↔ x = y := by
  unfold Bt
  rw [Int.ofNat_inj, BitVec.toNat_inj]
theorem take_eq_succ {α : Type} (X Y : List α) (d : α) (i : Nat) (hx : i < X.length) (hy : i < Y.length) (h : X.take i = Y.take i) : (X.take (i + 1) = Y.take (i + 1)) ↔ X.getD i d = Y.getD i d := by
  have e1 : X.getD i d = X[i] := by simp [List.getD, hx]
  have e2 : Y.getD i d = Y[i] := by simp [List.getD, hy]
  rw [List.take_succ_eq_append_getElem hx, List.take_succ_eq_append_getElem hy, h, e1, e2]
  constructor
  · intro hh
    have := List.append_cancel_left hh
    simpa using this
  · intro hh
    rw [hh]
theorem ne_at {α : Type} (X Y : List α) (d : α) (i : Nat) (h : X.getD i d ≠ Y.getD i d) : X ≠ Y := fun e => h (by rw [e])
/-- What an equality of two things tells. -/
def EqPost (b : Bool) (w : World) (e : Ending) (w' : World) : Prop := e = .returned (.bool b) ∧ Below w.heap.size w w'
set_option maxHeartbeats 4000000 in
theorem equal_any (v u : Value) (X Y : List (BitVec 8)) (w : World) (h1 : Sl w w.heap.size v X) (h2 : Sl w w.heap.size u Y) : Calls Try.prog 75 #[v, u] w (EqPost (decide (X = Y)) w) := by
  obtain ⟨A, c, rfl, hr, hc, hm, hn⟩ := h1
  obtain ⟨A2, c2, rfl, hr2, hc2, hm2, hn2⟩ := h2
  have HR := Lib.hid hr
  have HR2 := Lib.hid hr2
  obtain ⟨lx, hlx⟩ : ∃ n, n = X.length := ⟨_, rfl⟩
  obtain ⟨ly, hly⟩ : ∃ n, n = Y.length := ⟨_, rfl⟩
  have Hlx := Lib.hid hlx
  have Hly := Lib.hid hly
  have hlm : lx ≤ 9223372036854775807 := by omega
  have Hb0 := Lib.hid (Below.refl w.heap.size w)
  rw [← hlx, ← hly]
  clear hr hr2 hc hm hn hc2 hm2 hn2
  by_cases hl : lx = ly
  · have hly2 : ly = Y.length := hly
    clear hly
    subst hl
    clear hlx hly2
    go_enter Try.func75, Try.ntmps75
    go_wp2_with fail
    go_loopw [13] (fun iv wq => ∃ i : Nat, i ≤ lx ∧ iv = .int .i64 (i : Int) ∧ X.take i = Y.take i ∧ Below w.heap.size w wq) (fun iv _ => lx - (intOf iv).toNat)
    case atStart => exact ⟨0, Nat.zero_le _, rfl, rfl, Hb0.out⟩
    case round =>
      obtain ⟨i, hi, rfl, he, hb⟩ := hrel
      have HE := Lib.hid he
      clear he
      by_cases hlt : i < lx
      · have hlt' : (i : Int) < (lx : Int) := by omega
        obtain ⟨b, o, rfl, hbl, hcl⟩ := HR.out (by rw [← Hlx.out]; omega)
        obtain ⟨b2, o2, rfl, hbl2, hcl2⟩ := HR2.out (by rw [← Hly.out]; omega)
        have hst := take_eq_succ X Y 0 i (by rw [← Hlx.out]; exact hlt) (by rw [← Hly.out]; exact hlt) HE.out
        have hne := ne_at X Y 0 i
        have c0 : wr.cell? ⟨b, o + i, none⟩ = some (.int .u8 (Bt (X.getD i 0))) := by rw [hb.cell (p := ⟨b, o + i, none⟩) hbl]; exact hcl i (by rw [← Hlx.out]; exact hlt)
        have c1 : wr.cell? ⟨b2, o2 + i, none⟩ = some (.int .u8 (Bt (Y.getD i 0))) := by rw [hb.cell (p := ⟨b2, o2 + i, none⟩) hbl2]; exact hcl2 i (by rw [← Hly.out]; exact hlt)
        generalize X.getD i 0 = x at c0 hst hne
        generalize Y.getD i 0 = y at c1 hst hne
        have Hb := Lib.hid hb
        by_cases hxy : x = y
        · have HT := Lib.hid (hst.2 hxy)
          have e1 : (Bt x != Bt y) = false := by rw [hxy]; simp
          clear hst hne hxy hcl hcl2 hbl hbl2 hb
          go_wp2_with fail
          go_quiet (fail)
          go_wp2_with fail
          go_roundw
          case rel => exact ⟨i + 1, by omega, by go_num, HT.out, below_dN Hb.out _⟩
          case measure => simp [intOf]; omega
        · have HT : Hid (decide (X = Y) = false) := show decide (X = Y) = false by simpa using hne hxy
          have e1 : (Bt x != Bt y) = true := by simpa [Bt_inj] using hxy
          clear hst hne hxy hcl hcl2 hbl hbl2 hb
          go_wp2_with fail
          go_quiet (fail)
          go_wp2_with fail
          go_ret
          exact ⟨by rw [HT.out]; rfl, below_dN Hb.out _⟩
      · obtain rfl : i = lx := by omega
        have hlt' : ¬ (i : Int) < (i : Int) := by omega
        have HT : Hid (decide (X = Y) = true) := show decide (X = Y) = true by
          have := HE.out
          rw [List.take_of_length_le (by rw [← Hlx.out]; exact Nat.le_refl _), List.take_of_length_le (by rw [← Hly.out]; exact Nat.le_refl _)] at this
          simpa using this
        go_wp2_with fail
        go_ret
        exact ⟨by rw [HT.out]; rfl, hb⟩
  · have e1 : ((lx : Int) != (ly : Int)) = true := by simp; omega
    have HT : Hid (decide (X = Y) = false) := show decide (X = Y) = false by
      have : X ≠ Y := fun e => hl (by rw [hlx, hly, e])
      simpa using this
    clear hl hlx hly
    go_enter Try.func75, Try.ntmps75
    go_wp2_with fail
    go_ret
    exact ⟨by rw [HT.out]; rfl, Hb0.out⟩
theorem sameText_any (v u : Value) (X Y : List (BitVec 8)) (w : World) (h1 : Sl w w.heap.size v X) (h2 : Sl w w.heap.size u Y) : Calls Try.prog 63 #[v, u] w (EqPost (decide (X = Y)) w) := by
  have K := Lib.hid (equal_any v u X Y w h1 h2)
  clear h1 h2
  go_enter Try.func63, Try.ntmps63
  go_wp2_with (go_at_call 75; (with_reducible refine K.out.mono ?_); rintro e w2 ⟨rfl, hb⟩; dsimp only)
  go_ret
  exact ⟨rfl, hb⟩
open Go.RowKit
set_option linter.unusedVariables false
set_option linter.unusedSimpArgs false
set_option maxRecDepth 100000
theorem tol_data (s : ByteArray) : s.toList = s.data.toList := by
  have key : ∀ (n i : Nat) (r : List UInt8), s.size - i = n → ByteArray.toList.loop s i r = r.reverse ++ s.data.toList.drop i := by
    intro n
    induction n with
    | zero =>
      intro i r h
      unfold ByteArray.toList.loop
      rw [if_neg (by omega), List.drop_eq_nil_of_le (by rw [Array.length_toList]; show s.size ≤ i; omega)]
      simp
    | succ n ih =>
      intro i r h
      unfold ByteArray.toList.loop
      rw [if_pos (by omega), ih (i + 1) _ (by omega)]
      have hi : i < s.data.toList.length := by rw [Array.length_toList]; show i < s.size; omega
      rw [List.drop_eq_getElem_cons hi]
      have : s.get! i = s.data.toList[i] := by
        show s.data[i]! = _
        have h2 : i < s.data.size := by rw [Array.length_toList] at hi; exact hi
        rw [getElem!_pos s.data i h2]; simp
      simp [this]
  have := key (s.size - 0) 0 [] rfl
  simpa [ByteArray.toList] using this
theorem strB_list (L : List (BitVec 8)) : (strB L).toList = L.map UInt8.ofBitVec := by
  rw [tol_data]
  have key : ∀ (L : List (BitVec 8)) (r : ByteArray), ((L.map Bt).foldl (fun r n => r.push (UInt8.ofNat n.toNat)) r).data.toList = r.data.toList ++ L.map UInt8.ofBitVec := by
    intro L
    induction L with
    | nil => intro r; simp
    | cons x l ih =>
      intro r
      rw [List.map_cons, List.foldl_cons, ih]
      have e : UInt8.ofNat (Bt x).toNat = UInt8.ofBitVec x := by
        unfold Bt
        rw [Int.toNat_natCast]
        apply UInt8.toBitVec_inj.1
        simp
      rw [e]
      simp [ByteArray.push]
  have := key L ByteArray.empty
  simpa [strB] using this
theorem strB_eq {X Y : List (BitVec 8)} : (strB X).toList = (strB Y).toList ↔ X = Y := by
  rw [strB_list, strB_list]
  constructor
  · intro h
    have := congrArg (List.map UInt8.toBitVec) h
    have e : UInt8.toBitVec ∘ UInt8.ofBitVec = (id : BitVec 8 → BitVec 8) := funext fun x => rfl
    simpa [e] using this
  · rintro rfl; rfl
theorem strB_beq (X Y : List (BitVec 8)) : ((strB X).toList == (strB Y).toList) = decide (X = Y) := by
  by_cases h : X = Y
  · subst h; simp
  · have : ¬ (strB X).toList = (strB Y).toList := fun e => h (strB_eq.1 e)
    simp [h, this]
theorem rsame_any (v u : Value) (X Y : List (BitVec 8)) (B : Nat) (w : World) (h1 : Sl w B v X) (h2 : Sl w B u Y) : Calls Try.prog 46 #[v, u] w fun e w' => e = .returned (.bool (decide (X = Y))) ∧ w = w' := by
  obtain ⟨A, c, rfl, hr, _⟩ := h1
  obtain ⟨A2, c2, rfl, hr2, _⟩ := h2
  have e1 := conv_n (n := X.length) (c := c) hr rfl
  have e2 := conv_n (n := Y.length) (c := c2) hr2 rfl
  have e3 := strB_beq X Y
  generalize strB X = sx at e1 e3
  generalize strB Y = sy at e2 e3
  generalize X.length = lx at e1 ⊢
  generalize Y.length = ly at e2 ⊢
  generalize decide (X = Y) = d at e3 ⊢
  clear hr hr2
  go_enter Try.func46, Try.ntmps46
  go_wp2_with fail
  go_ret
  exact ⟨rfl, rfl⟩
/-- A bool is told, and nothing that was has changed. -/
def SomePost (w : World) (e : Ending) (w' : World) : Prop := ∃ b, e = .returned (.bool b) ∧ Below w.heap.size w w'
open Go.RowKit
set_option linter.unusedVariables false
set_option linter.unusedSimpArgs false
set_option maxRecDepth 100000
def OkIn (x : TIn) : Prop := x.tx.length = 32 ∧ x.ix < 4294967296 ∧ x.sq < 4294967296
def OkOut (y : TOut) : Prop := -9223372036854775808 ≤ y.vl ∧ y.vl < 9223372036854775808
theorem i64w_range (n : Nat) : -9223372036854775808 ≤ i64w n ∧ i64w n < 9223372036854775808 := by
  unfold i64w
  rw [IntKind.wrap_i64]
  omega
theorem rN_ok : ∀ (n : Nat) (s : Option (List (BitVec 8))), ∀ x ∈ (rN n s).2.1, OkIn x ∧ x.wt = []
  | 0, s, x, hx => by simp [rN] at hx
  | n + 1, s, x, hx => by
    by_cases h0 : rInE s = 0
    · simp only [rN, h0, if_true] at hx
      rcases List.mem_cons.1 hx with rfl | hx
      · exact ⟨⟨hashL_len s, numV_4 _, numV_4 _⟩, rfl⟩
      · exact rN_ok n _ x hx
    · simp only [rN, h0, if_false] at hx
      cases hx
theorem rO_ok : ∀ (n : Nat) (s : Option (List (BitVec 8))), ∀ y ∈ (rO n s).2.1, OkOut y
  | 0, s, x, hx => by simp [rO] at hx
  | n + 1, s, x, hx => by
    by_cases h0 : tE (numS s 8) 128 = 0
    · simp only [rO, h0, if_true] at hx
      rcases List.mem_cons.1 hx with rfl | hx
      · exact i64w_range _
      · exact rO_ok n _ x hx
    · simp only [rO, h0, if_false] at hx
      cases hx
theorem rIns_ok (s : Option (List (BitVec 8))) : ∀ x ∈ (rIns s).2.1, OkIn x ∧ x.wt = [] := by
  unfold rIns
  split
  · exact rN_ok _ _
  · intro x hx; cases hx
theorem rOuts_ok (s : Option (List (BitVec 8))) : ∀ y ∈ (rOuts s).2.1, OkOut y := by
  unfold rOuts
  split
  · exact rO_ok _ _
  · intro x hx; cases hx
theorem wW_ok : ∀ (xs : List TIn) (Ls : List (List (List (BitVec 8)))), (∀ x ∈ xs, OkIn x) → ∀ x ∈ wW xs Ls, OkIn x
  | [], _, _, x, hx => by simp [wW] at hx
  | _ :: _, [], _, x, hx => by simp [wW] at hx
  | y :: ys, L :: Ls, h, x, hx => by
    have hx : x ∈ (⟨y.tx, y.ix, y.sc, y.sq, L⟩ : TIn) :: wW ys Ls := hx
    rcases List.mem_cons.1 hx with rfl | hx
    · exact h y (by simp)
    · exact wW_ok ys Ls (fun z hz => h z (by simp [hz])) x hx
theorem WitN.ws {w : World} {u : Value} {Ls : List (List (BitVec 8))} (h : WitN w u Ls) (hn : Ls.length ≤ 1000000) : Ws w w.heap.size u Ls := by
  rcases h with ⟨rfl, rfl⟩ | ⟨ib, vs, rfl, hb, hs⟩
  · exact ⟨none, 0, rfl, Nat.le_refl _, by omega, fun h => by simp at h⟩
  · refine ⟨_, _, rfl, Nat.le_refl _, by omega, fun hp => ⟨ib, 0, rfl, hb.lt, fun j hj => ?_⟩⟩
    have hjv : j < vs.length := by rw [hs.1]; exact hj
    refine ⟨vs[j], by rw [Nat.zero_add, Nat.mul_one]; exact hb.cell (List.getElem?_eq_getElem hjv), (hs.2 j _ (List.getElem?_eq_getElem hjv)).sl⟩
theorem range_mid {w : World} {b : Nat} {T : TypeId} {pre us post : List Value} (h : Blk w b T (pre ++ (us ++ post))) : w.rangeAt b pre.length us := fun j v hv => by
  have hj := (List.getElem?_eq_some_iff.1 hv).1
  refine h.cell (j := pre.length + j) ?_
  rw [List.getElem?_append_right (by omega), Nat.add_sub_cancel_left, List.getElem?_append_left hj]
  exact hv
theorem ins_at {w : World} {ib : Nat} : ∀ (xs : List TIn) (pre vs : List Value), (∀ x ∈ xs, OkIn x ∧ x.wt.length ≤ 1000000) → InsW w xs vs → Blk w ib 69 (pre ++ vs) → ∀ j, j < xs.length → ∃ s u, w.rangeAt ib (pre.length + j * 36) (inV (xs.getD j In0) s u) ∧ InOk w w.heap.size (xs.getD j In0) s u
  | [], _, _, _, _, _, j, hj => by simp at hj
  | x :: xs, pre, _, hx, ⟨v, u, r, e, hi, hr⟩, hb, j, hj => by
    subst e
    cases j with
    | zero =>
      refine ⟨v, u, ?_, hi.1.sl, WitN.ws hi.2 (hx x (by simp)).2, (hx x (by simp)).1⟩
      simpa using range_mid hb
    | succ j =>
      have := ins_at xs (pre ++ inV x v u) r (fun y hy => hx y (by simp [hy])) hr (by rw [List.append_assoc]; exact hb) j (by simp at hj; omega)
      rw [List.length_append, inV_len (hx x (by simp)).1.1] at this
      rw [show pre.length + (j + 1) * 36 = pre.length + 36 + j * 36 by omega]
      exact this
theorem outs_at {w : World} {ib : Nat} : ∀ (ys : List TOut) (ss pre : List Value), (∀ y ∈ ys, OkOut y) → SlNs w ss (ys.map TOut.sc) → Blk w ib 71 (pre ++ (List.zipWith outV ys ss).flatten) → ∀ j, j < ys.length → ∃ s, w.rangeAt ib (pre.length + j * 2) (outV (ys.getD j Out0) s) ∧ OutOk w w.heap.size (ys.getD j Out0) s
  | [], _, _, _, _, _, j, hj => by simp at hj
  | y :: ys, [], _, _, h, _, j, hj => by have := h.1; simp at this
  | y :: ys, s :: ss, pre, hy, hs, hb, j, hj => by
    obtain ⟨h1, h2⟩ := SlNs.cons hs
    have hb : Blk w ib 71 (pre ++ (outV y s ++ (List.zipWith outV ys ss).flatten)) := hb
    cases j with
    | zero =>
      refine ⟨s, ?_, h1.sl, hy y (by simp)⟩
      simpa using range_mid hb
    | succ j =>
      have := outs_at ys ss (pre ++ outV y s) (fun z hz => hy z (by simp [hz])) h2 (by rw [List.append_assoc]; exact hb) j (by simp at hj; omega)
      rw [List.length_append, show (outV y s).length = 2 from rfl] at this
      rw [show pre.length + (j + 1) * 2 = pre.length + 2 + j * 2 by omega]
      exact this
theorem InsW.is {w : World} {ib n : Nat} {xs : List TIn} {vs : List Value} (h : InsW w xs vs) (hb : Blk w ib 69 vs) (hx : ∀ x ∈ xs, OkIn x ∧ x.wt.length ≤ 1000000) (hn : xs.length = n) (hl : n ≤ 1000000) : Is w w.heap.size (.slice (some ⟨ib, 0, none⟩) n n) xs := by
  subst hn
  refine ⟨_, _, rfl, Nat.le_refl _, by omega, fun hp => ⟨ib, 0, rfl, hb.lt, fun j hj => ?_⟩⟩
  exact ins_at xs [] vs hx h hb j hj
theorem OutsN.os {w : World} {ob n : Nat} {ys : List TOut} {vs : List Value} (h : OutsN w vs ys) (hb : Blk w ob 71 vs) (hy : ∀ y ∈ ys, OkOut y) (hn : ys.length = n) (hl : n ≤ 1000000) : Go.Proofs.Ytpamepkcbhoiaaa.Os w w.heap.size (.slice (some ⟨ob, 0, none⟩) n n) ys := by
  subst hn
  obtain ⟨ss, hs, rfl⟩ := h
  refine ⟨_, _, rfl, Nat.le_refl _, by omega, fun hp => ⟨ob, 0, rfl, hb.lt, fun j hj => ?_⟩⟩
  exact outs_at ys ss [] hy hs hb j hj
/-- Does the mark stand there? -/
def rM (s : Option (List (BitVec 8))) : Bool := decide (takeL s 2 = [0, 1])
/-- The transaction that s begins with: the error, the transaction, what is left; a missing end is not told yet. -/
def rT4 (v : Nat) (m : Bool) (ins : List TIn) (outs : List TOut) (s : Option (List (BitVec 8))) : Int × TTx × Option (List (BitVec 8)) :=
  if m = true ∧ witd ⟨v, ins, outs, 0⟩ = false then (4, ⟨v, ins, outs, 0⟩, s) else (0, ⟨v, ins, outs, numV s 4⟩, numS s 4)
def rT3 (v : Nat) (m : Bool) (ins : List TIn) (outs : List TOut) (s : Option (List (BitVec 8))) : Int × TTx × Option (List (BitVec 8)) :=
  if m = true then (if (rX ins.length s).1 = 0 then rT4 v m (wW ins (rX ins.length s).2.1) outs (rX ins.length s).2.2 else ((rX ins.length s).1, ⟨v, ins, outs, 0⟩, (rX ins.length s).2.2)) else rT4 v m ins outs s
def rT2 (v : Nat) (m : Bool) (ins : List TIn) (s : Option (List (BitVec 8))) : Int × TTx × Option (List (BitVec 8)) :=
  if (rOuts s).1 = 0 then rT3 v m ins (rOuts s).2.1 (rOuts s).2.2 else ((rOuts s).1, ⟨v, ins, [], 0⟩, (rOuts s).2.2)
def rT1 (v : Nat) (m : Bool) (s : Option (List (BitVec 8))) : Int × TTx × Option (List (BitVec 8)) :=
  if (rIns s).1 = 0 then rT2 v m (rIns s).2.1 (rIns s).2.2 else ((rIns s).1, ⟨v, [], [], 0⟩, (rIns s).2.2)
def rT (s : Option (List (BitVec 8))) : Int × TTx × Option (List (BitVec 8)) :=
  if rM (numS s 4) = true then rT1 (numV s 4) true (cutS (numS s 4) 2) else rT1 (numV s 4) false (numS s 4)
/-- What Parse answers. -/
def rP (s : Option (List (BitVec 8))) : Int × TTx × Option (List (BitVec 8)) :=
  if (rT s).1 = 0 ∧ (rT s).2.2.isNone = true then (4, ⟨0, [], [], 0⟩, (rT s).2.2) else if (rT s).1 = 0 then rT s else ((rT s).1, ⟨0, [], [], 0⟩, (rT s).2.2)
theorem mark_lit : strB [0, 1] = ({ data := #[0, 1] } : ByteArray) := by kernel_rfl
theorem mark_beq (X : List (BitVec 8)) : ((strB X).toList == ([0, 1] : List UInt8)) = decide (X = [0, 1]) := by
  have e : ([0, 1] : List UInt8) = (strB [0, 1]).toList := by rw [strB_list]; rfl
  rw [e]; exact strB_beq X [0, 1]
end Go.Proofs.Ytpamepkcbhoiaaa
