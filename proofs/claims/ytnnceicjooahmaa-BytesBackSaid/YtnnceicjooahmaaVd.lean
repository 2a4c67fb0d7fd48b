/- The document's own Num and Hash. -/
import Derived.Test.YtnnceicjooahmaaVc
import Derived.Outline
namespace Go.Proofs.Ytnnceicjooahmaa
open Go.RowKit
set_option linter.unusedVariables false
set_option linter.unusedSimpArgs false
/-- What the document's Num tells, and leaves behind. -/
def RNumPost (x : Nat) (s : Option (List (BitVec 8))) (B q : Nat) (X : List (BitVec 8)) (A : Option Addr) (cap : Nat) (w : World) (e : Ending) (w' : World) : Prop :=
  ∃ a' gone', e = .returned (.int .u64 x) ∧ IsQ w' B q X a' gone' A cap ∧ stQ X a' gone' = s ∧ w.grownBy w' (some q)
theorem takeL_len (s : Option (List (BitVec 8))) (n : Int) (m : Nat) (h : n ≤ m) : (takeL s n).length ≤ m := by
  cases s with
  | none => simp [takeL]
  | some L =>
    simp only [takeL]
    split
    · rw [List.length_take]; omega
    · simp
theorem value_n (A : Option Addr) (X : List (BitVec 8)) (m cap B : Nat) (w : World) (hm : X.length = m) (hR : Rd w B A X) (h8 : X.length ≤ 8) :
    Calls Try.prog 31 #[.slice A m cap] w fun e w' => e = .returned (.int .u64 (lev X)) ∧ w = w' := by subst hm; exact value_any A X cap B w hR h8
theorem rnum_any (q B a cap : Nat) (gone : Bool) (A : Option Addr) (X : List (BitVec 8)) (n : Int) (w : World) (h : IsQ w B q X a gone A cap) (hB : B ≤ w.heap.size) (hX : X.length ≤ 100000000) :
    Calls Try.prog 13 #[.pointer (some ⟨q, 0, none⟩), .int .i64 n] w (RNumPost (numV (stQ X a gone) n) (numS (stQ X a gone) n) B q X A cap w) := by
  have HW := Lib.hid (width_any n w)
  by_cases hw : isW n = true
  · have HT := Lib.hid (rtake_any q B a cap gone A X n w h hB hX)
    rw [hw] at HW
    have e1 : numV (stQ X a gone) n = lev (takeL (stQ X a gone) n) := by unfold numV; rw [if_pos hw]
    have e2 : numS (stQ X a gone) n = cutS (stQ X a gone) n := by unfold numS; rw [if_pos hw]
    rw [e1, e2]
    have HL : Hid ((takeL (stQ X a gone) n).length ≤ 8) := takeL_len _ n 8 (isW_pos hw).2
    generalize takeL (stQ X a gone) n = L at HT HL ⊢
    generalize cutS (stQ X a gone) n = s at HT ⊢
    clear h hB hX hw e1 e2
    go_enter Try.func13, Try.ntmps13
    go_wp2_with (first
      | (go_at_call 26; (with_reducible refine HW.out.mono ?_); rintro e w' ⟨rfl, rfl⟩; dsimp only)
      | (go_at_call 15; (with_reducible refine HT.out.mono ?_); rintro e w1 ⟨v, a', gone', rfl, ho, hi, hs, hg⟩; obtain ⟨A4, c4, rfl, hr, _, _, _⟩ := ho.rd; have HV := Lib.hid (value_any A4 L c4 _ w1 hr HL.out); have HI := Lib.hid hi; have HS := Lib.hid hs; have HG := Lib.hid hg; clear ho hi hs hg hr; dsimp only)
      | (go_at_call 31; (with_reducible refine HV.out.mono ?_); rintro e w' ⟨rfl, rfl⟩; dsimp only))
    go_ret
    exact ⟨_, _, rfl, HI.out, HS.out, HG.out⟩
  · have hw' : isW n = false := by simpa using hw
    rw [hw'] at HW
    have e1 : numV (stQ X a gone) n = 0 := by unfold numV; rw [if_neg hw]
    have e2 : numS (stQ X a gone) n = none := by unfold numS; rw [if_neg hw]
    rw [e1, e2]
    have c2 := h.blk.cell (j := 2) (v := .bool gone) rfl
    have f2 := h.blk.free 2
    have HI := Lib.hid h
    clear h hB hX hw hw' e1 e2
    go_enter Try.func13, Try.ntmps13
    go_wp2_with (go_at_call 26; (with_reducible refine HW.out.mono ?_); rintro e w' ⟨rfl, rfl⟩; dsimp only)
    go_ret
    exact ⟨a, true, rfl, HI.out.gone_, rfl, grown_setCells [.bool true] 2 _ (grown_refl _ _)⟩
theorem IsQ.keep {w w' : World} {B q a cap : Nat} {X : List (BitVec 8)} {gone : Bool} {A : Option Addr} (h : IsQ w B q X a gone A cap) (hk : ∀ b, b < B → w'.heap[b]? = w.heap[b]?) : IsQ w' B q X a gone A cap :=
  ⟨h.blk.same (hk q h.lt), h.own.heap fun b _ hb _ => hk b hb, h.lt, h.le, h.cap_, h.nil_, h.at_⟩
/-- What the document's Hash tells, and leaves behind. -/
def RHashPost (H : List (BitVec 8)) (s : Option (List (BitVec 8))) (B q : Nat) (X : List (BitVec 8)) (A : Option Addr) (cap : Nat) (w : World) (e : Ending) (w' : World) : Prop :=
  ∃ a' gone', e = .returned (.agg (vbs H).toArray) ∧ IsQ w' B q X a' gone' A cap ∧ stQ X a' gone' = s ∧ w.grownBy w' (some q)
theorem hash_len (s : Option (List (BitVec 8))) : (takeL s 32).length ≤ 32 ∧ (takeL s 32) ++ Z32.drop (takeL s 32).length = hashL s := by
  refine ⟨takeL_len s 32 32 (by omega), ?_⟩
  unfold hashL
  by_cases h : hasB s 32 = true
  · rw [if_pos h]
    have hl : (takeL s 32).length = 32 := by
      have := hashL_len s
      unfold hashL at this
      rwa [if_pos h] at this
    rw [hl]
    simp [Z32]
  · rw [if_neg h, (cut_no (by simpa using h)).1]
    rfl
def mixK (L : List (BitVec 8)) (k : Nat) : List (BitVec 8) := L.take k ++ Z32.drop k
theorem mixK_len (L : List (BitVec 8)) (k : Nat) (hk : k ≤ L.length) (hl : L.length ≤ 32) : (mixK L k).length = 32 := by simp [mixK, Z32]; omega
theorem mixK_set (L : List (BitVec 8)) (k : Nat) (hk : k < L.length) (hl : L.length ≤ 32) : (mixK L k).set k (L.getD k 0) = mixK L (k + 1) := by
  have e : Z32.drop k = (0 : BitVec 8) :: Z32.drop (k + 1) := by
    rw [List.drop_eq_getElem_cons (by simp [Z32]; omega)]
    unfold Z32
    rw [List.getElem_replicate]
  have e2 : L.getD k 0 = L[k] := by simp [List.getD, hk]
  unfold mixK
  rw [e, List.set_append_right _ _ (by rw [List.length_take]; omega), List.length_take, Nat.min_eq_left (by omega), Nat.sub_self, List.take_succ_eq_append_getElem hk, List.append_assoc, e2]
  rfl
set_option maxHeartbeats 1000000 in
theorem rhash_any (q B a cap : Nat) (gone : Bool) (A : Option Addr) (X : List (BitVec 8)) (w : World) (h : IsQ w B q X a gone A cap) (hB : B ≤ w.heap.size) (hX : X.length ≤ 100000000) :
    Calls Try.prog 17 #[.pointer (some ⟨q, 0, none⟩)] w (RHashPost (hashL (stQ X a gone)) (cutS (stQ X a gone) 32) B q X A cap w) := by
  have hz := zero42
  have hB0 := (Blk.new w 42 (vbs Z32).toArray).alloc (.cells (vbs Z32).toArray 42)
  have hB1 := Blk.new (w.alloc (.cells (vbs Z32).toArray 42)) 42 (vbs Z32).toArray
  have hbW : Below w.heap.size w ((w.alloc (.cells (vbs Z32).toArray 42)).alloc (.cells (vbs Z32).toArray 42)) := ((Below.refl _ _).alloc (Nat.le_refl _) _).alloc (by simp) _
  have es : (w.alloc (.cells (vbs Z32).toArray 42)).heap.size = w.heap.size + 1 := by simp
  rw [es] at hB1
  have HT := Lib.hid (rtake_any q B a cap gone A X 32 _ (h.below hbW hB) (Nat.le_trans hB hbW.size) hX)
  have HBB := Lib.hid hB
  have Hlt : Hid (q < w.heap.size) := show q < w.heap.size by have := h.lt; omega
  have Hh := hash_len (stQ X a gone)
  have HLn := Lib.hid (hashL_len (stQ X a gone))
  generalize takeL (stQ X a gone) 32 = L at HT Hh
  generalize cutS (stQ X a gone) 32 = s at HT ⊢
  generalize hashL (stQ X a gone) = H at Hh HLn ⊢
  have HH := Lib.hid Hh
  clear h hB hX es Hh
  go_enter Try.func17, Try.ntmps17
  go_upto_region 2 with fail
  generalize (w.alloc (.cells (vbs Z32).toArray 42)).alloc (.cells (vbs Z32).toArray 42) = W at hB0 hB1 hbW HT ⊢
  have HB0 := Lib.hid hB0
  have HB1 := Lib.hid hB1
  have HW := Lib.hid hbW
  have HWs : Hid (w.heap.size + 1 < W.heap.size) := hB1.lt
  clear hB0 hB1 hbW hz
  go_upto_region 4 with (go_at_call 15; (with_reducible refine HT.out.mono ?_); rintro e W1 ⟨v, a', gone', rfl, ho, hi, hs, hg⟩; obtain ⟨A4, c4, rfl, hr, _, _, _⟩ := ho.rd; have HO := Lib.hid ho; have HI := Lib.hid hi; have HS := Lib.hid hs; have HG := Lib.hid hg; have HR := Lib.hid hr; clear ho hi hs hg hr; dsimp only)
  obtain ⟨m, hm⟩ : ∃ m, m = L.length := ⟨_, rfl⟩
  have Hm := Lib.hid hm
  have hb1 : Blk W1 (w.heap.size + 1) 42 (vbs Z32) := HB1.out.grown HG.out (fun e => by have := Option.some.inj e; have := Hlt.out; omega)
  have hb0 : Blk W1 w.heap.size 42 (vbs Z32) := HB0.out.grown HG.out (fun e => by have := Option.some.inj e; have := Hlt.out; omega)
  have Hb1 := Lib.hid hb1
  have Hb0 := Lib.hid hb0
  have hm32 : m ≤ 32 := by have := HH.out.1; omega
  rw [← hm]
  clear hm hb1 hb0 HB0 HB1 HT
  go_loopw [5] (fun i wr => ∃ k : Nat, k ≤ m ∧ i = .int .i64 k ∧ Blk wr (w.heap.size + 1) 42 (vbs (mixK L k)) ∧ W1.grownBy wr (some (w.heap.size + 1))) (fun i _ => m - (intOf i).toNat)
  case atStart => exact ⟨0, Nat.zero_le _, rfl, Hb1.out, grown_refl _ _⟩
  case round =>
    obtain ⟨k, hk, rfl, hBk, hGk⟩ := hrel
    have HBk := Lib.hid hBk
    have HGk := Lib.hid hGk
    by_cases hlt : k < m
    · obtain ⟨b, o, rfl, hbl, hc⟩ := HR.out (by have := Hm.out; omega)
      have hl4 : L.length ≤ 32 := HH.out.1
      have hkL : k < L.length := by have := Hm.out; omega
      have hne : b ≠ w.heap.size + 1 := fun e => by
        obtain ⟨g, hg⟩ := HO.out.form (by omega)
        have h0 := (World.ownsRow.lt (show W1.ownsRow _ 5 1 _ L.length (vbs L) from HO.out) g (by rw [hg]; rfl)).1
        have e2 : b = g := by injection hg with hg; injection hg
        have := HWs.out
        omega
      have d0 := hc k hkL
      have hcf := World.cell?_of_block (w := W1) (w' := wr) (a := ⟨b, o + k, none⟩) (HGk.out.block b hbl (fun e => hne (Option.some.inj e)))
      rw [← hcf] at d0
      obtain ⟨x, hx⟩ : ∃ x, x = L.getD k 0 := ⟨_, rfl⟩
      have hset := mixK_set L k hkL hl4
      rw [← hx] at d0 hset
      have st := hBk.cell (vbs_at (l := mixK L k) (j := k) (by rw [mixK_len L k (by omega) hl4]; omega))
      have sf := hBk.free k
      have k0 : (0 : Int) ≤ (k : Int) := by omega
      have k1 : (k : Int) < 32 := by omega
      have HSet := Lib.hid hset
      clear hset hx hc hcf hne hBk hGk hl4 hkL hbl
      go_wp2
      go_roundw
      case rel => exact ⟨k + 1, by omega, by go_num, by rw [← HSet.out, ← vbs_set]; exact HBk.out.set k _, grown_setCells [_] k _ HGk.out⟩
      case measure => simp [intOf]; omega
    · obtain rfl : k = m := by omega
      have hmx : mixK L k = H := by unfold mixK; rw [Hm.out, List.take_length]; exact HH.out.2
      rw [hmx] at hBk
      have HRg := Lib.hid hBk.range
      have hq0 : Blk wr w.heap.size 42 (vbs Z32) := Hb0.out.grown hGk (fun e => by have := Option.some.inj e; omega)
      have HTh : Hid (wr.there w.heap.size 0 32) := hq0.there
      have hlen : (vbs H).length = 32 := by rw [vbs_len]; exact HLn.out
      have HLn2 := Lib.hid hlen
      have HI42 := Lib.hid (i42 hlen)
      have HQ0 := Lib.hid hq0
      clear hBk hGk hq0 hlen hmx
      go_wp2_with (first
        | (with_reducible refine wpList_load_mid rfl 42 (.tmp 3) rfl (w.heap.size + 1) 0 rfl (vbs H) _ HRg.out Try.underlying42 rfl HI42.out ?_)
        | (with_reducible refine wpList_store_mid rfl 42 (.tmp 2) (.tmp 20) rfl w.heap.size 0 (vbs H).toArray rfl rfl (there_arr HTh.out HLn2.out) (info_arr HI42.out) (all_oneCell_toArray (vbs_one _)) ?_))
      have hS := HQ0.out.setCells (vbs H) (by rw [HLn2.out]; rfl)
      have hlv := run_loadVar_mid (P := Try.prog) (wr.setCells w.heap.size 0 (vbs H)) w.heap.size 0 42 _ _ hS.range Try.underlying42 rfl HI42.out
      have hP : RHashPost H s B q X A cap w (.returned (.agg (vbs H).toArray)) (wr.setCells w.heap.size 0 (vbs H)) := by
        refine ⟨a', gone', rfl, ?_, HS.out, ?_⟩
        · refine HI.out.keep fun b hb => ?_
          have h1 := HBB.out
          rw [heap_setCells _ _ _ _ (by omega)]
          exact HGk.out.block b (by have := HWs.out; have := HG.out.size; omega) (fun e => by have := Option.some.inj e; omega)
        · refine ⟨?_, ?_, ?_, ?_, fun k hk hne => ?_⟩
          · rw [(setCells_same _ _ _ _).1, HGk.out.os, HG.out.os, HW.out.os]
          · rw [(setCells_same _ _ _ _).2.1, HGk.out.tape, HG.out.tape, HW.out.tape]
          · rw [(setCells_same _ _ _ _).2.2.1, HGk.out.output, HG.out.output, HW.out.output]
          · rw [(setCells_same _ _ _ _).2.2.2]; exact Nat.le_trans HW.out.size (Nat.le_trans HG.out.size HGk.out.size)
          · rw [heap_setCells _ _ _ _ (by omega), HGk.out.block k (by have := HW.out.size; have := HG.out.size; omega) (fun e => by have := Option.some.inj e; omega), HG.out.block k (Nat.lt_of_lt_of_le hk HW.out.size) hne, HW.out.block k hk]
      exact bodyPost_ret (v := .agg (vbs H).toArray) (by simp [results, Try.results17, asAddr, Act.put, hlv]) rfl hP
end Go.Proofs.Ytnnceicjooahmaa
