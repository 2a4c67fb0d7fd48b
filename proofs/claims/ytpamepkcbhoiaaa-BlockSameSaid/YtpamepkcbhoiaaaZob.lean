/- What compact.PutText returns. What the reader's End, Peek and Hash, compact.Get and compact.Text return, and what the reader is then. Transactions in memory: slices of bytes, lists of them, inputs, outputs; how each lies. What tx.fits, longIn's own function, and slices.IndexFunc and ContainsFunc with it return. What tx.parsedCount returns, and what the reader is then. A law on regions that draw their order, where a condition holds behind each of their operations. A law on regions that draw their order, where a condition holds behind each operation ahead of number z, and what stands from z on waits for all that reads. What the loops 'each' return when the closure may return an error: the first error, or none. What bytes.Put, tx.number and tx.count return. What slices.ContainsFunc, longIn, longOut and the check for a witness return. -/
import Derived.Test.YtpamepkcbhoiaaaZoa
import Derived.Outline
import Derived.Lib.MinMax
import Derived.StillTail
namespace Go.Proofs.Ytpamepkcbhoiaaa
open Go.RowKit
set_option linter.unusedVariables false
set_option linter.unusedSimpArgs false
set_option maxRecDepth 100000
theorem put_n (A : Option Addr) (L : List (BitVec 8)) (l cap B : Nat) (n : Nat) (w : World) (hL : L.length = l) (hR : Rd w B A L) (hB : B ≤ w.heap.size) (hl : L.length ≤ 100000000) :
    Calls Try.prog 28 #[.slice A l cap, .int .u64 n] w (LaidPost (L ++ form n) w) := by subst hL; exact put_any A L cap B n w hR hB hl
theorem putText_any (A A2 : Option Addr) (L T : List (BitVec 8)) (cap cap2 B : Nat) (w : World) (hR : Rd w B A L) (hR2 : Rd w B A2 T) (hB : B ≤ w.heap.size) (hc2 : A2 = none → cap2 = 0) (hl : L.length ≤ 100000000) (hl2 : T.length ≤ 100000000) :
    Calls Try.prog 84 #[.slice A L.length cap, .slice A2 T.length cap2] w (LaidPost (L ++ form T.length ++ T) w) := by
  have K10 := Lib.hid (put_any A L cap B T.length w hR hB hl)
  obtain ⟨l, hll⟩ : ∃ l, l = L.length := ⟨_, rfl⟩
  obtain ⟨m, hmm⟩ : ∃ m, m = T.length := ⟨_, rfl⟩
  have HM := Lib.hid hmm
  have HLl := Lib.hid hll
  have Hl := Lib.hid hl
  have hm8 : m ≤ 100000000 := by omega
  have HR2 := Lib.hid hR2
  have HB := Lib.hid hB
  have Hc2 := Lib.hid hc2
  have HF := Lib.hid (form_len T.length)
  have HW := Lib.hid (wid_le T.length)
  rw [← hll, ← hmm] at K10
  rw [← hmm] at HF HW
  rw [← hll, ← hmm]
  clear hll hmm hR hR2 hB hc2 hl hl2
  go_enter Try.func84, Try.ntmps84
  go_wp2_with (first
    | (go_at_call 28; (with_reducible refine K10.out.mono ?_); rintro e w1 ⟨v, rfl, hv, hb⟩; have HV := Lib.hid hv; have HB1 := Lib.hid hb; have HS := Lib.hid (src_of_rd (HR2.out.keep (hb.mono HB.out))); clear hv hb; dsimp only)
    | (refine wpList_push (o := ⟨some 11, _, _, _, _, _⟩) rfl (.tmp 9) (.tmp 10) rfl rfl w.heap.size _ _ T rfl HV.out A2 m cap2 rfl HM.out HS.out Hc2.out (by have := HM.out; have := HF.out; have := HW.out; have := HLl.out; have := Hl.out; rw [List.length_append]; omega) HB1.out HB1.out.size (Nat.le_refl _) ?_; intro v3 w3 h1 h2 h3))
  go_ret
  exact ⟨_, rfl, h1, h2⟩
open Go.RowKit
set_option linter.unusedVariables false
set_option linter.unusedSimpArgs false
set_option maxRecDepth 100000
theorem end_any (p : Option Nat) (s : Option (List (BitVec 8))) (B : Nat) (w : World) (h : IsR w B p s) : Calls Try.prog 18 #[ptr p] w fun e w' => e = .returned (.bool (endS s)) ∧ w = w' := by
  have HT := Lib.hid (torn_any p s B w h)
  cases s with
  | none =>
    obtain ⟨q, hq⟩ : ∃ q, q = ptr p := ⟨_, rfl⟩
    rw [← hq] at HT ⊢
    clear h hq
    go_enter Try.func18, Try.ntmps18
    go_wp2_with (go_at_call 37; (with_reducible refine HT.out.mono ?_); rintro e w' ⟨rfl, rfl⟩; dsimp only [Option.isNone])
    go_ret
    exact ⟨rfl, rfl⟩
  | some L =>
    obtain ⟨g, A, cap, rfl, _, hb, _, hl, hm, _⟩ := h
    rw [ptr_some] at HT ⊢
    have c0 := hb.cell (j := 0) (v := .slice A L.length cap) rfl
    clear hb hl hm
    cases L with
    | nil =>
      go_enter Try.func18, Try.ntmps18
      go_wp2_with (go_at_call 37; (with_reducible refine HT.out.mono ?_); rintro e w' ⟨rfl, rfl⟩; dsimp only [Option.isNone])
      go_ret
      exact ⟨rfl, rfl⟩
    | cons x r =>
      obtain ⟨n, hn⟩ : ∃ n, n = (x :: r).length := ⟨_, rfl⟩
      have hp : ((n : Int) == 0) = false := by rw [hn]; simp; omega
      rw [← hn] at c0
      clear hn
      go_enter Try.func18, Try.ntmps18
      go_wp2_with (go_at_call 37; (with_reducible refine HT.out.mono ?_); rintro e w' ⟨rfl, rfl⟩; dsimp only [Option.isNone])
      go_ret
      exact ⟨rfl, rfl⟩
theorem peek_any (p : Option Nat) (s : Option (List (BitVec 8))) (n : Int) (B : Nat) (w : World) (h : IsR w B p s) (hB : B ≤ w.heap.size) (hl : ∀ L, s = some L → L.length ≤ 100000000) :
    Calls Try.prog 71 #[ptr p, .int .i64 n] w (NewPost (takeL s n) s B p w) := by
  have HC := Lib.hid (has_any p s n B w h)
  have HI := Lib.hid h
  have HBB := Lib.hid hB
  by_cases hs : hasB s n = true
  · cases s with
    | none => cases hs
    | some L =>
      obtain ⟨h1, h2, h3⟩ := cut_yes hs
      have h4 := hl L rfl
      have hn : 0 ≤ n ∧ n ≤ L.length := by simpa [hasB] using hs
      obtain ⟨k, rfl⟩ : ∃ k : Nat, n = k := ⟨n.toNat, by omega⟩
      obtain ⟨g, A, cap, rfl, hg, hb, ho, hlc, hm, hz⟩ := h
      rw [ptr_some] at HC ⊢
      rw [hs] at HC
      rw [h1]
      have c0 := hb.cell (j := 0) (v := .slice A L.length cap) rfl
      have k1 : k ≤ cap := by omega
      have HK := Lib.hid (clone_len A (L.take k) k cap B w (by rw [List.length_take]; omega) (ho.take k (by omega)).rd hB hz (by rw [List.length_take]; omega))
      clear hs hl h1 h2 h3 h4 hn hb ho hz hB
      go_enter Try.func71, Try.ntmps71
      go_wp2_with (first | (go_at_call 60; (with_reducible refine HC.out.mono ?_); rintro e w' ⟨rfl, rfl⟩; dsimp only) | (go_at_call 31; refine HK.out.mono ?_; rintro e w2 ⟨v, rfl, hO, hb⟩; dsimp only))
      go_ret
      exact ⟨_, rfl, hO, HI.out.below hb HBB.out, grown_below (grown_refl _ _) hb⟩
  · have hs' : hasB s n = false := by simpa using hs
    obtain ⟨h1, h2⟩ := cut_no hs'
    rw [h1]
    rw [hs'] at HC
    obtain ⟨q, hq⟩ : ∃ q, q = ptr p := ⟨_, rfl⟩
    rw [← hq] at HC ⊢
    clear h hq hs hl h1 h2 hs' hB
    go_enter Try.func71, Try.ntmps71
    go_wp2_with (go_at_call 60; (with_reducible refine HC.out.mono ?_); rintro e w' ⟨rfl, rfl⟩; dsimp only)
    go_ret
    exact ⟨_, rfl, OB.nil _ _, HI.out, grown_refl _ _⟩
theorem zero42 : ∀ w, (zeroValue 25).run Try.prog w = .ok (.agg (vbs Z32).toArray) w := fun _ => by kernel_rfl
theorem slice42 (b : Nat) (w : World) : (Instr.sliceAt 25 (.pointer (some ⟨b, 0, none⟩)) none none none).run Try.prog w = .ok (.slice (some ⟨b, 0, none⟩) 32 32) w := by
  rw [run_sliceAt_array_all w 25 _ (by kernel_rfl)]
  have hs : (sizeOf (Try.prog.elem 25)).run Try.prog w = .ok 1 w := by kernel_rfl
  have hl : Try.prog.arrayLen 25 = 32 := by kernel_rfl
  rw [hs, hl]
  rfl
theorem info42 : (Try.prog.info? 25).map (·.size) = some 32 := by kernel_rfl
theorem i42 {vs : List Value} (h : vs.length = 32) : (Try.prog.info? 25).map (·.size) = some vs.length := by rw [h]; exact info42
set_option maxHeartbeats 1000000 in
theorem hash_any (p : Option Nat) (s : Option (List (BitVec 8))) (B : Nat) (w : World) (h : IsR w B p s) (hB : B ≤ w.heap.size) :
    Calls Try.prog 33 #[ptr p] w (HashPost (hashL s) (cutS s 32) B p w) := by
  have hz := zero42
  have hB0 := (Blk.new w 25 (vbs Z32).toArray).alloc (.cells (vbs Z32).toArray 25)
  have hB1 := Blk.new (w.alloc (.cells (vbs Z32).toArray 25)) 25 (vbs Z32).toArray
  have hbW : Below w.heap.size w ((w.alloc (.cells (vbs Z32).toArray 25)).alloc (.cells (vbs Z32).toArray 25)) := ((Below.refl _ _).alloc (Nat.le_refl _) _).alloc (by simp) _
  have es : (w.alloc (.cells (vbs Z32).toArray 25)).heap.size = w.heap.size + 1 := by simp
  rw [es] at hB1
  have HC := Lib.hid (cut_any p s 32 B _ (h.below hbW hB))
  have HL := Lib.hid (hashL_len s)
  have HD : Hid (hashL s = if hasB s 32 then takeL s 32 else Z32) := rfl
  have HBB := Lib.hid hB
  have hlt : ∀ g, p = some g → g < w.heap.size := fun g e => by
    subst e
    cases s with
    | none => have := (h g rfl).1; omega
    | some L => obtain ⟨g', _, _, e, hg, _⟩ := h; cases e; omega
  have HLt := Lib.hid hlt
  obtain ⟨q, hq⟩ : ∃ q, q = ptr p := ⟨_, rfl⟩
  rw [← hq] at HC ⊢
  clear h hB hlt hq es
  go_enter Try.func33, Try.ntmps33
  go_upto_region 2 with fail
  generalize (w.alloc (.cells (vbs Z32).toArray 25)).alloc (.cells (vbs Z32).toArray 25) = W at hB0 hB1 hbW HC ⊢
  have HB0 := Lib.hid hB0
  have HB1 := Lib.hid hB1
  have HW := Lib.hid hbW
  clear hB0 hB1 hbW hz
  by_cases hs : hasB s 32 = true
  · have HS := Lib.hid hs
    have hD := HD.out
    rw [if_pos hs] at hD
    have HD2 := Lib.hid hD
    have HT : Hid (cutS s 32 = s.bind fun L => some (L.drop 32)) := by
      cases s with
      | none => cases hs
      | some L => rw [(cut_yes hs).2.1]; exact rfl
    have HE : Hid (∀ L, s = some L → takeL s 32 = L.take 32) := fun L e => by subst e; exact (cut_yes hs).1
    have HRl : Hid (∀ L, s = some L → (L.take 32).length = 32) := fun L e => by subst e; have := (cut_yes hs).2.2; simp at this ⊢; omega
    clear hs hD HD
    go_upto_region 3 with (go_at_call 34; (with_reducible refine HC.out.mono ?_); rintro e W1 hP; obtain ⟨hG, hN, hY⟩ := hP; obtain ⟨M, A, hM, rfl, hO, hA, hI0⟩ := hY HS.out; clear hN hY hA; have HM := Lib.hid hM; clear hM; dsimp only)
    rw [show ((32 : Int).toNat) = 32 from rfl] at hO hI0
    have hI : IsR W1 B p (cutS s 32) := by rw [HT.out, HM.out]; exact hI0
    obtain ⟨R, hR⟩ : ∃ R, R = M.take 32 := ⟨_, rfl⟩
    have hRl : R.length = 32 := by rw [hR]; exact HRl.out M HM.out
    have HR : Hid (R.length ≤ 32) := show R.length ≤ 32 by omega
    rw [← hR] at hO
    have HRd := Lib.hid hO.rd
    have hlenE : (32 : Nat) = R.length := hRl.symm
    have HX : Hid (splice (vbs Z32) 0 (vbs R) = vbs (hashL s)) := show splice (vbs Z32) 0 (vbs R) = vbs (hashL s) by
      rw [splice_all _ _ (by rw [vbs_len, vbs_len, hRl]; rfl), HD2.out, HE.out M HM.out, hR]
    have HRl0 := Lib.hid hRl
    clear hO hI0 hR HRl HE HD2 HT hRl hlenE HM
    have hb1 : Blk W1 (w.heap.size + 1) 25 (vbs Z32) := HB1.out.grown hG (fun e => by have := HLt.out _ e.symm; omega)
    have hb0 : Blk W1 w.heap.size 25 (vbs Z32) := HB0.out.grown hG (fun e => by have := HLt.out _ e.symm; omega)
    have hsl := slice42 (w.heap.size + 1) W1
    have c1 : Hid ((vbs R).length = Nat.min 32 32) := show (vbs R).length = min 32 32 by rw [vbs_len]; have := HRl0.out; omega
    have c2 : Hid (0 < (vbs R).length → (some (⟨w.heap.size + 1, 0, none⟩ : Addr)) = some ⟨w.heap.size + 1, 0, none⟩ ∧ ∃ ad : Addr, A = some ad ∧ ∀ j v, (vbs R)[j]? = some v → W1.cell? (ad.add j) = some v) := fun hp => by
      rw [vbs_len] at hp
      obtain ⟨b, o, e, hlt, hc⟩ := HRd.out hp
      refine ⟨rfl, ⟨b, o, none⟩, e, fun j v hv => ?_⟩
      have hj : j < R.length := by have := (List.getElem?_eq_some_iff.1 hv).1; rwa [vbs_len] at this
      rw [vbs_at hj] at hv
      rw [Addr.add_mid, hc j hj]; exact hv
    have c3 : Hid (0 + (vbs R).length ≤ (vbs Z32).length) := show 0 + (vbs R).length ≤ (vbs Z32).length by rw [vbs_len, vbs_len]; have := HR.out; simp [Z32]; omega
    have HB1' := Lib.hid hb1
    have HB0' := Lib.hid hb0
    have HG := Lib.hid hG
    have HI := Lib.hid hI
    clear hb1 hb0 hG hI HB0 HB1 HC
    go_upto_region 4 with (refine wpList_copy_splice (o := ⟨some 13, _, _, _, _, _⟩) rfl (.tmp 11) (.tmp 12) 22 22 rfl 5 Try.underlying22 (by kernel_rfl) (some ⟨w.heap.size + 1, 0, none⟩) A 32 32 32 32 rfl rfl (w.heap.size + 1) 0 (vbs Z32) 25 HB1'.out (vbs R) c1.out c2.out c3.out (vbs_one R) (w.heap.size + 1) W1 (Below.refl _ _) (Nat.le_refl _) ?_; intro w2 hB2 hb2)
    rw [HX.out] at hB2
    have hB2' : Blk w2 (w.heap.size + 1) 25 (vbs (hashL s)) := hB2
    have HRg := Lib.hid hB2'.range
    have hq0 : Blk w2 w.heap.size 25 (vbs Z32) := HB0'.out.below hb2 (by omega)
    have HTh : Hid (w2.there w.heap.size 0 32) := hq0.there
    have hlen : (vbs (hashL s)).length = 32 := by rw [vbs_len]; exact HL.out
    have HLn := Lib.hid hlen
    have HI42 := Lib.hid (i42 hlen)
    have HQ0 := Lib.hid hq0
    have HB2 := Lib.hid hb2
    clear hB2 hB2' hq0 hlen hb2 hsl c1 c2 c3 HB1' HB0'
    go_wp2_with (first | (with_reducible refine wpList_load_mid rfl 25 (.tmp 3) rfl (w.heap.size + 1) 0 rfl (vbs (hashL s)) _ HRg.out Try.underlying25 rfl HI42.out ?_) | (with_reducible refine wpList_store_mid rfl 25 (.tmp 2) (.tmp 14) rfl w.heap.size 0 (vbs (hashL s)).toArray rfl rfl (there_arr HTh.out HLn.out) (info_arr HI42.out) (all_oneCell_toArray (vbs_one _)) ?_))
    have hS := HQ0.out.setCells (vbs (hashL s)) (by rw [HLn.out]; rfl)
    have hlv := run_loadVar_mid (P := Try.prog) (w2.setCells w.heap.size 0 (vbs (hashL s))) w.heap.size 0 25 _ _ hS.range Try.underlying25 rfl HI42.out
    have hP : HashPost (hashL s) (cutS s 32) B p w (.returned (.agg (vbs (hashL s)).toArray)) (w2.setCells w.heap.size 0 (vbs (hashL s))) := by
      refine ⟨rfl, ?_, ?_⟩
      · exact (HI.out.below HB2.out (by have := HBB.out; omega)).keep fun b hb => heap_setCells _ _ _ _ (by have := HBB.out; omega)
      · refine ⟨?_, ?_, ?_, ?_, fun k hk hne => ?_⟩
        · rw [(setCells_same _ _ _ _).1, HB2.out.os, HG.out.os, HW.out.os]
        · rw [(setCells_same _ _ _ _).2.1, HB2.out.tape, HG.out.tape, HW.out.tape]
        · rw [(setCells_same _ _ _ _).2.2.1, HB2.out.output, HG.out.output, HW.out.output]
        · rw [(setCells_same _ _ _ _).2.2.2]; exact Nat.le_trans HW.out.size (Nat.le_trans HG.out.size HB2.out.size)
        · rw [heap_setCells _ _ _ _ (by omega), HB2.out.block k (by omega), HG.out.block k (Nat.lt_of_lt_of_le hk HW.out.size) hne, HW.out.block k hk]
    exact bodyPost_ret (v := .agg (vbs (hashL s)).toArray) (by simp [results, Try.results33, asAddr, Act.put, hlv]) rfl hP
  · have hs' : hasB s 32 = false := by simpa using hs
    have HS := Lib.hid hs'
    have hD := HD.out
    rw [if_neg hs] at hD
    have HD2 := Lib.hid hD
    have HT : Hid (cutS s 32 = none) := (cut_no hs').2
    clear hs hs' hD HD
    go_upto_region 3 with (go_at_call 34; (with_reducible refine HC.out.mono ?_); rintro e W1 hP; obtain ⟨hG, hN, hY⟩ := hP; obtain ⟨rfl, hI0⟩ := hN HS.out; clear hN hY; dsimp only)
    have hI : IsR W1 B p (cutS s 32) := by rw [HT.out]; exact hI0
    obtain ⟨R, hR⟩ : ∃ R : List (BitVec 8), R = [] := ⟨_, rfl⟩
    have hRl : R.length = 0 := by rw [hR]; rfl
    have HR : Hid (R.length ≤ 32) := show R.length ≤ 32 by omega
    have HRl0 := Lib.hid hRl
    have HRd := Lib.hid (show Rd W1 B none R from fun hp => by omega)
    have HX : Hid (splice (vbs Z32) 0 (vbs R) = vbs (hashL s)) := show splice (vbs Z32) 0 (vbs R) = vbs (hashL s) by
      rw [HD2.out, hR]; rfl
    clear hI0 hR hRl HD2 HT
    have hb1 : Blk W1 (w.heap.size + 1) 25 (vbs Z32) := HB1.out.grown hG (fun e => by have := HLt.out _ e.symm; omega)
    have hb0 : Blk W1 w.heap.size 25 (vbs Z32) := HB0.out.grown hG (fun e => by have := HLt.out _ e.symm; omega)
    have hsl := slice42 (w.heap.size + 1) W1
    have c1 : Hid ((vbs R).length = Nat.min 0 32) := show (vbs R).length = min 0 32 by rw [vbs_len]; have := HRl0.out; omega
    have c2 : Hid (0 < (vbs R).length → (some (⟨w.heap.size + 1, 0, none⟩ : Addr)) = some ⟨w.heap.size + 1, 0, none⟩ ∧ ∃ ad : Addr, none = some ad ∧ ∀ j v, (vbs R)[j]? = some v → W1.cell? (ad.add j) = some v) := fun hp => by
      rw [vbs_len] at hp
      obtain ⟨b, o, e, hlt, hc⟩ := HRd.out hp
      refine ⟨rfl, ⟨b, o, none⟩, e, fun j v hv => ?_⟩
      have hj : j < R.length := by have := (List.getElem?_eq_some_iff.1 hv).1; rwa [vbs_len] at this
      rw [vbs_at hj] at hv
      rw [Addr.add_mid, hc j hj]; exact hv
    have c3 : Hid (0 + (vbs R).length ≤ (vbs Z32).length) := show 0 + (vbs R).length ≤ (vbs Z32).length by rw [vbs_len, vbs_len]; have := HR.out; simp [Z32]; omega
    have HB1' := Lib.hid hb1
    have HB0' := Lib.hid hb0
    have HG := Lib.hid hG
    have HI := Lib.hid hI
    clear hb1 hb0 hG hI HB0 HB1 HC
    go_upto_region 4 with (refine wpList_copy_splice (o := ⟨some 13, _, _, _, _, _⟩) rfl (.tmp 11) (.tmp 12) 22 22 rfl 5 Try.underlying22 (by kernel_rfl) (some ⟨w.heap.size + 1, 0, none⟩) none 32 32 0 0 rfl rfl (w.heap.size + 1) 0 (vbs Z32) 25 HB1'.out (vbs R) c1.out c2.out c3.out (vbs_one R) (w.heap.size + 1) W1 (Below.refl _ _) (Nat.le_refl _) ?_; intro w2 hB2 hb2)
    rw [HX.out] at hB2
    have hB2' : Blk w2 (w.heap.size + 1) 25 (vbs (hashL s)) := hB2
    have HRg := Lib.hid hB2'.range
    have hq0 : Blk w2 w.heap.size 25 (vbs Z32) := HB0'.out.below hb2 (by omega)
    have HTh : Hid (w2.there w.heap.size 0 32) := hq0.there
    have hlen : (vbs (hashL s)).length = 32 := by rw [vbs_len]; exact HL.out
    have HLn := Lib.hid hlen
    have HI42 := Lib.hid (i42 hlen)
    have HQ0 := Lib.hid hq0
    have HB2 := Lib.hid hb2
    clear hB2 hB2' hq0 hlen hb2 hsl c1 c2 c3 HB1' HB0'
    go_wp2_with (first | (with_reducible refine wpList_load_mid rfl 25 (.tmp 3) rfl (w.heap.size + 1) 0 rfl (vbs (hashL s)) _ HRg.out Try.underlying25 rfl HI42.out ?_) | (with_reducible refine wpList_store_mid rfl 25 (.tmp 2) (.tmp 14) rfl w.heap.size 0 (vbs (hashL s)).toArray rfl rfl (there_arr HTh.out HLn.out) (info_arr HI42.out) (all_oneCell_toArray (vbs_one _)) ?_))
    have hS := HQ0.out.setCells (vbs (hashL s)) (by rw [HLn.out]; rfl)
    have hlv := run_loadVar_mid (P := Try.prog) (w2.setCells w.heap.size 0 (vbs (hashL s))) w.heap.size 0 25 _ _ hS.range Try.underlying25 rfl HI42.out
    have hP : HashPost (hashL s) (cutS s 32) B p w (.returned (.agg (vbs (hashL s)).toArray)) (w2.setCells w.heap.size 0 (vbs (hashL s))) := by
      refine ⟨rfl, ?_, ?_⟩
      · exact (HI.out.below HB2.out (by have := HBB.out; omega)).keep fun b hb => heap_setCells _ _ _ _ (by have := HBB.out; omega)
      · refine ⟨?_, ?_, ?_, ?_, fun k hk hne => ?_⟩
        · rw [(setCells_same _ _ _ _).1, HB2.out.os, HG.out.os, HW.out.os]
        · rw [(setCells_same _ _ _ _).2.1, HB2.out.tape, HG.out.tape, HW.out.tape]
        · rw [(setCells_same _ _ _ _).2.2.1, HB2.out.output, HG.out.output, HW.out.output]
        · rw [(setCells_same _ _ _ _).2.2.2]; exact Nat.le_trans HW.out.size (Nat.le_trans HG.out.size HB2.out.size)
        · rw [heap_setCells _ _ _ _ (by omega), HB2.out.block k (by omega), HG.out.block k (Nat.lt_of_lt_of_le hk HW.out.size) hne, HW.out.block k hk]
    exact bodyPost_ret (v := .agg (vbs (hashL s)).toArray) (by simp [results, Try.results33, asAddr, Act.put, hlv]) rfl hP
open Go.RowKit
set_option linter.unusedVariables false
set_option linter.unusedSimpArgs false
set_option maxRecDepth 100000
theorem grown_trans {w w1 w2 : World} {p : Option Nat} (h : w.grownBy w1 p) (hb : w1.grownBy w2 p) : w.grownBy w2 p :=
  ⟨hb.os.trans h.os, hb.tape.trans h.tape, hb.output.trans h.output, Nat.le_trans h.size hb.size, fun k hk hne => (hb.block k (Nat.lt_of_lt_of_le hk h.size) hne).trans (h.block k hk hne)⟩
/-- The number that a form at the reader's place tells. -/
def gN (s : Option (List (BitVec 8))) : Nat := if fol (numV s 1) = 0 then numV s 1 else numV (numS s 1) (fol (numV s 1))
/-- What is left behind the form. -/
def gS (s : Option (List (BitVec 8))) : Option (List (BitVec 8)) := if fol (numV s 1) = 0 then numS s 1 else numS (numS s 1) (fol (numV s 1))
/-- The error that Get answers. -/
def gE (s : Option (List (BitVec 8))) (most : Nat) : Int := if (gS s).isNone = true ∨ numV s 1 ≠ fst (gN s) then 4 else if most < gN s then 3 else 0
/-- The number that Get answers. -/
def gV (s : Option (List (BitVec 8))) (most : Nat) : Nat := if gE s most = 0 then gN s else 0
def GetPost (x : Nat) (c : Int) (s : Option (List (BitVec 8))) (B : Nat) (p : Option Nat) (w : World) (e : Ending) (w' : World) : Prop :=
  e = .returned (.tuple #[.int .u64 x, .int .i64 c]) ∧ IsR w' B p s ∧ w.grownBy w' p
theorem takeL_len1 (s : Option (List (BitVec 8))) : (takeL s 1).length ≤ 1 := by
  cases s with
  | none => simp [takeL]
  | some L =>
    simp only [takeL]
    split
    · rw [List.length_take]; omega
    · simp
theorem numV_1 (s : Option (List (BitVec 8))) : numV s 1 < 256 := by
  have h := lev_lt (takeL s 1)
  have h1 := takeL_len1 s
  have : 2 ^ (8 * (takeL s 1).length) ≤ 2 ^ 8 := Nat.pow_le_pow_right (by omega) (by omega)
  unfold numV
  split <;> omega
theorem get_one (p q : Option Nat) (s s2 : Option (List (BitVec 8))) (x1 W f2 most B : Nat) (w : World) (h : IsR w B p s) (hB : B ≤ w.heap.size) (hx : numV s 1 = x1) (hs1 : numS s 1 = s2) (hW : fol x1 = W) (hW0 : W = 0) (hf2 : fst x1 = f2) :
    Calls Try.prog 35 #[ptr p, .int .u64 most] w (GetPost (if (s2.isNone = true ∨ x1 ≠ f2) ∨ most < x1 then 0 else x1) (if s2.isNone = true ∨ x1 ≠ f2 then 4 else if most < x1 then 3 else 0) s2 B p w) := by
  have K1 := Lib.hid (num_any p s 1 B w h hB)
  have hx8 : (x1 : Int) < 256 := by have := numV_1 s; omega
  have HB := Lib.hid hB
  have K26 := Lib.hid (fun w => following_any x1 w)
  have K25 := Lib.hid (fun w => first_any x1 w)
  rw [hx, hs1] at K1
  rw [hW] at K26
  rw [hf2] at K25
  subst hW0
  clear h hB hx hs1 hW hf2
  by_cases ht : s2.isNone = true
  · have HT := Lib.hid ht
    rw [if_pos (Or.inl (Or.inl ht)), if_pos (Or.inl ht)]
    clear ht
    go_enter Try.func35, Try.ntmps35
    go_wp2_with (first
      | (go_at_call 32; (with_reducible refine K1.out.mono ?_); rintro e w2 ⟨rfl, hi2, hg2⟩; have KT := Lib.hid (torn_any p _ B w2 hi2); have HI2 := Lib.hid hi2; have HG2 := Lib.hid hg2; rw [HT.out] at KT; clear hi2 hg2 K1; dsimp only)
      | (go_at_call 53; (with_reducible refine (K26.out _).mono ?_); rintro e w' ⟨rfl, rfl⟩; dsimp only)
      | (go_at_call 37; (with_reducible refine KT.out.mono ?_); rintro e w' ⟨rfl, rfl⟩; dsimp only)
      | (go_at_call 52; (with_reducible refine (K25.out _).mono ?_); rintro e w' ⟨rfl, rfl⟩; dsimp only))
    go_ret2
    exact ⟨rfl, HI2.out, HG2.out⟩
  · have htf : s2.isNone = false := Bool.eq_false_iff.2 ht
    have HT := Lib.hid htf
    by_cases hf : x1 = f2
    · have hff : ((x1 : Int) != (f2 : Int)) = false := by simp; omega
      by_cases hm : most < x1
      · have hm1 : (most : Int) < (x1 : Int) := by omega
        rw [if_pos (Or.inr hm), if_neg (by simp [ht, hf]), if_pos hm]
        clear ht htf hf hm
        go_enter Try.func35, Try.ntmps35
        go_wp2_with (first
          | (go_at_call 32; (with_reducible refine K1.out.mono ?_); rintro e w2 ⟨rfl, hi2, hg2⟩; have KT := Lib.hid (torn_any p _ B w2 hi2); have HI2 := Lib.hid hi2; have HG2 := Lib.hid hg2; rw [HT.out] at KT; clear hi2 hg2 K1; dsimp only)
          | (go_at_call 53; (with_reducible refine (K26.out _).mono ?_); rintro e w' ⟨rfl, rfl⟩; dsimp only)
          | (go_at_call 37; (with_reducible refine KT.out.mono ?_); rintro e w' ⟨rfl, rfl⟩; dsimp only)
          | (go_at_call 52; (with_reducible refine (K25.out _).mono ?_); rintro e w' ⟨rfl, rfl⟩; dsimp only))
        go_ret2
        exact ⟨rfl, HI2.out, HG2.out⟩
      · have hm1 : ¬ (most : Int) < (x1 : Int) := by omega
        rw [if_neg (by simp [ht, hf]; omega), if_neg (by simp [ht, hf]), if_neg hm]
        clear ht htf hf hm
        go_enter Try.func35, Try.ntmps35
        go_wp2_with (first
          | (go_at_call 32; (with_reducible refine K1.out.mono ?_); rintro e w2 ⟨rfl, hi2, hg2⟩; have KT := Lib.hid (torn_any p _ B w2 hi2); have HI2 := Lib.hid hi2; have HG2 := Lib.hid hg2; rw [HT.out] at KT; clear hi2 hg2 K1; dsimp only)
          | (go_at_call 53; (with_reducible refine (K26.out _).mono ?_); rintro e w' ⟨rfl, rfl⟩; dsimp only)
          | (go_at_call 37; (with_reducible refine KT.out.mono ?_); rintro e w' ⟨rfl, rfl⟩; dsimp only)
          | (go_at_call 52; (with_reducible refine (K25.out _).mono ?_); rintro e w' ⟨rfl, rfl⟩; dsimp only))
        go_ret2
        exact ⟨rfl, HI2.out, HG2.out⟩
    · have hff : ((x1 : Int) != (f2 : Int)) = true := by simp; omega
      rw [if_pos (Or.inl (Or.inr hf)), if_pos (Or.inr hf)]
      clear ht htf hf
      go_enter Try.func35, Try.ntmps35
      go_wp2_with (first
        | (go_at_call 32; (with_reducible refine K1.out.mono ?_); rintro e w2 ⟨rfl, hi2, hg2⟩; have KT := Lib.hid (torn_any p _ B w2 hi2); have HI2 := Lib.hid hi2; have HG2 := Lib.hid hg2; rw [HT.out] at KT; clear hi2 hg2 K1; dsimp only)
        | (go_at_call 53; (with_reducible refine (K26.out _).mono ?_); rintro e w' ⟨rfl, rfl⟩; dsimp only)
        | (go_at_call 37; (with_reducible refine KT.out.mono ?_); rintro e w' ⟨rfl, rfl⟩; dsimp only)
        | (go_at_call 52; (with_reducible refine (K25.out _).mono ?_); rintro e w' ⟨rfl, rfl⟩; dsimp only))
      go_ret2
      exact ⟨rfl, HI2.out, HG2.out⟩
theorem get_two (p q : Option Nat) (s s1 s2 : Option (List (BitVec 8))) (x1 x2 W f2 most B : Nat) (w : World) (h : IsR w B p s) (hB : B ≤ w.heap.size) (hx : numV s 1 = x1) (hs1 : numS s 1 = s1) (hW : fol x1 = W) (hx2 : numV s1 W = x2) (hs2 : numS s1 W = s2) (hW0 : W ≠ 0) (hf2 : fst x2 = f2) :
    Calls Try.prog 35 #[ptr p, .int .u64 most] w (GetPost (if (s2.isNone = true ∨ x1 ≠ f2) ∨ most < x2 then 0 else x2) (if s2.isNone = true ∨ x1 ≠ f2 then 4 else if most < x2 then 3 else 0) s2 B p w) := by
  have K1 := Lib.hid (num_any p s 1 B w h hB)
  have hx8 : (x1 : Int) < 256 := by have := numV_1 s; omega
  have HB := Lib.hid hB
  have K26 := Lib.hid (fun w => following_any x1 w)
  have K25 := Lib.hid (fun w => first_any x2 w)
  rw [hx, hs1] at K1
  rw [hW] at K26
  rw [hf2] at K25
  have HX2 := Lib.hid hx2
  have HS2 := Lib.hid hs2
  have hWp : (0 : Int) < (W : Int) := by omega
  obtain ⟨P, hP⟩ : ∃ P, P = ptr p := ⟨_, rfl⟩
  clear h hB hx hs1 hW hW0 hf2 hx2 hs2
  by_cases ht : s2.isNone = true
  · have HT := Lib.hid ht
    rw [if_pos (Or.inl (Or.inl ht)), if_pos (Or.inl ht)]
    clear ht
    go_enter Try.func35, Try.ntmps35
    go_wp2_with (first
      | (go_at_call 32; (with_reducible refine K2.out.mono ?_); rintro e w2 ⟨rfl, hi2, hg2⟩; have KT := Lib.hid (torn_any p _ B w2 hi2); have HI2 := Lib.hid hi2; have HG2 := Lib.hid hg2; rw [HT.out] at KT; clear hi2 hg2 K2; dsimp only)
      | (go_at_call 32; (with_reducible refine K1.out.mono ?_); rintro e w1 ⟨rfl, hi, hg⟩; have K2 := Lib.hid (num_any p s1 W B w1 hi (Nat.le_trans HB.out hg.size)); have HG1 := Lib.hid hg; rw [HX2.out, HS2.out] at K2; clear hi hg K1; dsimp only)
      | (go_at_call 53; (with_reducible refine (K26.out _).mono ?_); rintro e w' ⟨rfl, rfl⟩; dsimp only)
      | (go_at_call 37; (with_reducible refine KT.out.mono ?_); rintro e w' ⟨rfl, rfl⟩; dsimp only)
      | (go_at_call 52; (with_reducible refine (K25.out _).mono ?_); rintro e w' ⟨rfl, rfl⟩; dsimp only))
    go_ret2
    exact ⟨rfl, HI2.out, grown_trans HG1.out HG2.out⟩
  · have htf : s2.isNone = false := Bool.eq_false_iff.2 ht
    have HT := Lib.hid htf
    by_cases hf : x1 = f2
    · have hff : ((x1 : Int) != (f2 : Int)) = false := by simp; omega
      by_cases hm : most < x2
      · have hm1 : (most : Int) < (x2 : Int) := by omega
        rw [if_pos (Or.inr hm), if_neg (by simp [ht, hf]), if_pos hm]
        clear ht htf hf hm
        go_enter Try.func35, Try.ntmps35
        go_wp2_with (first
          | (go_at_call 32; (with_reducible refine K2.out.mono ?_); rintro e w2 ⟨rfl, hi2, hg2⟩; have KT := Lib.hid (torn_any p _ B w2 hi2); have HI2 := Lib.hid hi2; have HG2 := Lib.hid hg2; rw [HT.out] at KT; clear hi2 hg2 K2; dsimp only)
          | (go_at_call 32; (with_reducible refine K1.out.mono ?_); rintro e w1 ⟨rfl, hi, hg⟩; have K2 := Lib.hid (num_any p s1 W B w1 hi (Nat.le_trans HB.out hg.size)); have HG1 := Lib.hid hg; rw [HX2.out, HS2.out] at K2; clear hi hg K1; dsimp only)
          | (go_at_call 53; (with_reducible refine (K26.out _).mono ?_); rintro e w' ⟨rfl, rfl⟩; dsimp only)
          | (go_at_call 37; (with_reducible refine KT.out.mono ?_); rintro e w' ⟨rfl, rfl⟩; dsimp only)
          | (go_at_call 52; (with_reducible refine (K25.out _).mono ?_); rintro e w' ⟨rfl, rfl⟩; dsimp only))
        go_ret2
        exact ⟨rfl, HI2.out, grown_trans HG1.out HG2.out⟩
      · have hm1 : ¬ (most : Int) < (x2 : Int) := by omega
        rw [if_neg (by simp [ht, hf]; omega), if_neg (by simp [ht, hf]), if_neg hm]
        clear ht htf hf hm
        go_enter Try.func35, Try.ntmps35
        go_wp2_with (first
          | (go_at_call 32; (with_reducible refine K2.out.mono ?_); rintro e w2 ⟨rfl, hi2, hg2⟩; have KT := Lib.hid (torn_any p _ B w2 hi2); have HI2 := Lib.hid hi2; have HG2 := Lib.hid hg2; rw [HT.out] at KT; clear hi2 hg2 K2; dsimp only)
          | (go_at_call 32; (with_reducible refine K1.out.mono ?_); rintro e w1 ⟨rfl, hi, hg⟩; have K2 := Lib.hid (num_any p s1 W B w1 hi (Nat.le_trans HB.out hg.size)); have HG1 := Lib.hid hg; rw [HX2.out, HS2.out] at K2; clear hi hg K1; dsimp only)
          | (go_at_call 53; (with_reducible refine (K26.out _).mono ?_); rintro e w' ⟨rfl, rfl⟩; dsimp only)
          | (go_at_call 37; (with_reducible refine KT.out.mono ?_); rintro e w' ⟨rfl, rfl⟩; dsimp only)
          | (go_at_call 52; (with_reducible refine (K25.out _).mono ?_); rintro e w' ⟨rfl, rfl⟩; dsimp only))
        go_ret2
        exact ⟨rfl, HI2.out, grown_trans HG1.out HG2.out⟩
    · have hff : ((x1 : Int) != (f2 : Int)) = true := by simp; omega
      rw [if_pos (Or.inl (Or.inr hf)), if_pos (Or.inr hf)]
      clear ht htf hf
      go_enter Try.func35, Try.ntmps35
      go_wp2_with (first
        | (go_at_call 32; (with_reducible refine K2.out.mono ?_); rintro e w2 ⟨rfl, hi2, hg2⟩; have KT := Lib.hid (torn_any p _ B w2 hi2); have HI2 := Lib.hid hi2; have HG2 := Lib.hid hg2; rw [HT.out] at KT; clear hi2 hg2 K2; dsimp only)
        | (go_at_call 32; (with_reducible refine K1.out.mono ?_); rintro e w1 ⟨rfl, hi, hg⟩; have K2 := Lib.hid (num_any p s1 W B w1 hi (Nat.le_trans HB.out hg.size)); have HG1 := Lib.hid hg; rw [HX2.out, HS2.out] at K2; clear hi hg K1; dsimp only)
        | (go_at_call 53; (with_reducible refine (K26.out _).mono ?_); rintro e w' ⟨rfl, rfl⟩; dsimp only)
        | (go_at_call 37; (with_reducible refine KT.out.mono ?_); rintro e w' ⟨rfl, rfl⟩; dsimp only)
        | (go_at_call 52; (with_reducible refine (K25.out _).mono ?_); rintro e w' ⟨rfl, rfl⟩; dsimp only))
      go_ret2
      exact ⟨rfl, HI2.out, grown_trans HG1.out HG2.out⟩
theorem get_any (p : Option Nat) (s : Option (List (BitVec 8))) (most B : Nat) (w : World) (h : IsR w B p s) (hB : B ≤ w.heap.size) :
    Calls Try.prog 35 #[ptr p, .int .u64 most] w (GetPost (gV s most) (gE s most) (gS s) B p w) := by
  have key : ∀ (t : Bool) (a f x : Nat), (if (if t = true ∨ a ≠ f then (4 : Int) else if most < x then 3 else 0) = 0 then x else 0) = (if (t = true ∨ a ≠ f) ∨ most < x then 0 else x) := by
    intro t a f x
    by_cases h1 : t = true ∨ a ≠ f
    · rw [if_pos h1, if_pos (Or.inl h1), if_neg (by decide)]
    · rw [if_neg h1]
      by_cases h2 : most < x
      · rw [if_pos h2, if_pos (Or.inr h2), if_neg (by decide)]
      · rw [if_neg h2, if_pos rfl, if_neg (by intro h; rcases h with h | h; exact h1 h; exact h2 h)]
  by_cases hw : fol (numV s 1) = 0
  · have eN : gN s = numV s 1 := by unfold gN; rw [if_pos hw]
    have eS : gS s = numS s 1 := by unfold gS; rw [if_pos hw]
    have := get_one p p s (numS s 1) (numV s 1) _ (fst (numV s 1)) most B w h hB rfl rfl rfl hw rfl
    unfold gV gE
    rw [eN, eS, key]
    exact this
  · have eN : gN s = numV (numS s 1) (fol (numV s 1)) := by unfold gN; rw [if_neg hw]
    have eS : gS s = numS (numS s 1) (fol (numV s 1)) := by unfold gS; rw [if_neg hw]
    have := get_two p p s (numS s 1) (numS (numS s 1) (fol (numV s 1))) (numV s 1) (numV (numS s 1) (fol (numV s 1))) _ (fst (numV (numS s 1) (fol (numV s 1)))) most B w h hB rfl rfl rfl rfl rfl hw rfl
    unfold gV gE
    rw [eN, eS, key]
    exact this

open Go.RowKit
set_option linter.unusedVariables false
set_option linter.unusedSimpArgs false
set_option maxRecDepth 100000
def tE (s : Option (List (BitVec 8))) (most : Nat) : Int := if gE s most = 0 then (if (cutS (gS s) (gN s)).isNone = true then 4 else 0) else gE s most
def tL (s : Option (List (BitVec 8))) (most : Nat) : List (BitVec 8) := if tE s most = 0 then takeL (gS s) (gN s) else []
def tS (s : Option (List (BitVec 8))) (most : Nat) : Option (List (BitVec 8)) := if gE s most = 0 then cutS (gS s) (gN s) else gS s
def TextPost (X : List (BitVec 8)) (c : Int) (s : Option (List (BitVec 8))) (B : Nat) (p : Option Nat) (w : World) (e : Ending) (w' : World) : Prop :=
  ∃ v, e = .returned (.tuple #[v, .int .i64 c]) ∧ OB w' w.heap.size v X ∧ IsR w' B p s ∧ w.grownBy w' p
/-- No more than k bytes are left. -/
def Short (s : Option (List (BitVec 8))) (k : Nat) : Prop := ∀ L, s = some L → L.length ≤ k
theorem cutS_short {s : Option (List (BitVec 8))} {k : Nat} (h : Short s k) (n : Int) : Short (cutS s n) k := by
  cases s with
  | none => intro L e; cases e
  | some M =>
    intro L e
    simp only [cutS] at e
    split at e
    · cases e; have := h M rfl; rw [List.length_drop]; omega
    · cases e
theorem numS_short {s : Option (List (BitVec 8))} {k : Nat} (h : Short s k) (n : Int) : Short (numS s n) k := by
  unfold numS
  split
  · exact cutS_short h n
  · intro L e; cases e
theorem gS_short {s : Option (List (BitVec 8))} {k : Nat} (h : Short s k) : Short (gS s) k := by
  unfold gS
  split
  · exact numS_short h 1
  · exact numS_short (numS_short h 1) _
theorem gE_ne (s : Option (List (BitVec 8))) (most : Nat) (h : gE s most = 0) : gN s ≤ most := by
  unfold gE at h
  split at h
  · cases h
  · split at h
    · cases h
    · omega
theorem text_any (p : Option Nat) (s : Option (List (BitVec 8))) (most : Int) (B : Nat) (w : World) (h : IsR w B p s) (hB : B ≤ w.heap.size) (hl : Short s 100000000) (hm : most ≤ 9223372036854775807) :
    Calls Try.prog 91 #[ptr p, .int .i64 most] w (TextPost (tL s most.toNat) (tE s most.toNat) (tS s most.toNat) B p w) := by
  have K18 := Lib.hid (get_any p s most.toNat B w h hB)
  have hmax : max most 0 = (most.toNat : Int) := by omega
  obtain ⟨M, hM⟩ : ∃ M, M = most.toNat := ⟨_, rfl⟩
  rw [← hM] at K18 hmax ⊢
  have hMl : (M : Int) ≤ 9223372036854775807 := by omega
  have HB := Lib.hid hB
  obtain ⟨P, hP⟩ : ∃ P, P = ptr p := ⟨_, rfl⟩
  by_cases he : gE s M = 0
  · have hN := gE_ne s M he
    have hgl := gS_short hl
    have eS : tS s M = cutS (gS s) (gN s) := by unfold tS; rw [if_pos he]
    have eV : gV s M = gN s := by unfold gV; rw [if_pos he]
    have eE : tE s M = if (cutS (gS s) (gN s)).isNone = true then 4 else 0 := by unfold tE; rw [if_pos he]
    have eL : tL s M = if tE s M = 0 then takeL (gS s) (gN s) else [] := rfl
    rw [eL, eE, eS]
    rw [he, eV] at K18
    obtain ⟨x, hx⟩ : ∃ x, x = gN s := ⟨_, rfl⟩
    rw [← hx] at K18 hN ⊢
    obtain ⟨g, hg⟩ : ∃ g, g = gS s := ⟨_, rfl⟩
    rw [← hg] at K18 hgl ⊢
    have hx1 : (x : Int) ≤ 9223372036854775807 := by omega
    have HG := Lib.hid hgl
    obtain ⟨t, ht⟩ : ∃ t, t = (cutS g x).isNone := ⟨_, rfl⟩
    have HT := Lib.hid ht
    rw [← ht]
    clear h hB hl hm hM he hN hgl eS eV eE eL hx hg ht
    cases t with
    | true =>
      rw [if_pos rfl, if_neg (by decide : ¬ ((4 : Int) = 0))]
      go_enter Try.func91, Try.ntmps91
      go_wp2_with (first
        | (go_at_call 35; (with_reducible refine K18.out.mono ?_); rintro e w1 ⟨rfl, hi, hg⟩; have K31 := Lib.hid (take_any p g x B w1 hi (Nat.le_trans HB.out hg.size) HG.out); have HG1 := Lib.hid hg; clear hi hg K18; dsimp only)
        | (go_at_call 16; (with_reducible refine K31.out.mono ?_); rintro e w2 ⟨v, rfl, ho, hi, hg⟩; have KT := Lib.hid (torn_any p _ B w2 hi); have HI := Lib.hid hi; have HG2 := Lib.hid hg; rw [← HT.out] at KT; clear hi hg ho K31; dsimp only)
        | (go_at_call 37; (with_reducible refine KT.out.mono ?_); rintro e w' ⟨rfl, rfl⟩; dsimp only))
      go_ret2
      exact ⟨_, rfl, OB.nil _ _, HI.out, grown_trans HG1.out HG2.out⟩
    | false =>
      rw [if_neg (by decide : ¬ (false = true)), if_pos rfl]
      go_enter Try.func91, Try.ntmps91
      go_wp2_with (first
        | (go_at_call 35; (with_reducible refine K18.out.mono ?_); rintro e w1 ⟨rfl, hi, hg⟩; have K31 := Lib.hid (take_any p g x B w1 hi (Nat.le_trans HB.out hg.size) HG.out); have HG1 := Lib.hid hg; clear hi hg K18; dsimp only)
        | (go_at_call 16; (with_reducible refine K31.out.mono ?_); rintro e w2 ⟨v, rfl, ho, hi, hg⟩; have KT := Lib.hid (torn_any p _ B w2 hi); have HI := Lib.hid hi; have HO := Lib.hid ho; have HG2 := Lib.hid hg; rw [← HT.out] at KT; clear hi hg ho K31; dsimp only)
        | (go_at_call 37; (with_reducible refine KT.out.mono ?_); rintro e w' ⟨rfl, rfl⟩; dsimp only))
      go_ret2
      exact ⟨_, rfl, HO.out.base HG1.out.size, HI.out, grown_trans HG1.out HG2.out⟩
  · have eS : tS s M = gS s := by unfold tS; rw [if_neg he]
    have eV : gV s M = 0 := by unfold gV; rw [if_neg he]
    have eE : tE s M = gE s M := by unfold tE; rw [if_neg he]
    have eL : tL s M = [] := by unfold tL; rw [eE, if_neg he]
    rw [eL, eE, eS]
    rw [eV] at K18
    obtain ⟨c, hc⟩ : ∃ c, c = gE s M := ⟨_, rfl⟩
    rw [← hc] at K18 he ⊢
    have hc0 : (c != 0) = true := by simpa using he
    clear h hB hl hm hM he eS eV eE eL hc
    go_enter Try.func91, Try.ntmps91
    go_wp2_with (go_at_call 35; (with_reducible refine K18.out.mono ?_); rintro e w1 ⟨rfl, hi, hg⟩; have HI := Lib.hid hi; have HG1 := Lib.hid hg; clear hi hg K18; dsimp only)
    go_ret2
    exact ⟨_, rfl, OB.nil _ _, HI.out, HG1.out⟩
open Go.RowKit
set_option linter.unusedVariables false
set_option linter.unusedSimpArgs false
set_option maxRecDepth 100000
/-- The value v is a slice that reads as the bytes L, and lies below block B. -/
def Sl (w : World) (B : Nat) (v : Value) (L : List (BitVec 8)) : Prop :=
  ∃ A cap, v = .slice A L.length cap ∧ Rd w B A L ∧ L.length ≤ cap ∧ cap ≤ 9223372036854775807 ∧ (A = none → cap = 0)
theorem Sl.keep {w w' : World} {B B' : Nat} {v : Value} {L : List (BitVec 8)} (h : Sl w B v L) (hb : Below B' w w') (hB : B ≤ B') : Sl w' B v L := by
  obtain ⟨A, cap, e, hr, r⟩ := h
  exact ⟨A, cap, e, hr.keep' hb hB, r⟩
theorem Sl.up {w : World} {B B' : Nat} {v : Value} {L : List (BitVec 8)} (h : Sl w B v L) (hB : B ≤ B') : Sl w B' v L := by
  obtain ⟨A, cap, e, hr, r⟩ := h
  exact ⟨A, cap, e, hr.up hB, r⟩
theorem Sl.nil (w : World) (B : Nat) : Sl w B (.slice none 0 0) [] := ⟨none, 0, rfl, fun h => by simp at h, Nat.le_refl _, by omega, fun _ => rfl⟩
/-- The value v is a slice of n things of k cells each, below block B; each lies as R says. -/
def Row (w : World) (B : Nat) (v : Value) (n k : Nat) (R : Nat → Nat → Nat → Prop) : Prop :=
  ∃ A cap, v = .slice A n cap ∧ n ≤ cap ∧ cap ≤ 9223372036854775807 ∧ (0 < n → ∃ b o, A = some ⟨b, o, none⟩ ∧ b < B ∧ ∀ j, j < n → R j b (o + j * k))
theorem Row.imp {w w' : World} {B B' : Nat} {v : Value} {n k : Nat} {R R' : Nat → Nat → Nat → Prop} (h : Row w B v n k R) (hB : B ≤ B') (hi : ∀ j b o, j < n → b < B → R j b o → R' j b o) : Row w' B' v n k R' := by
  obtain ⟨A, cap, e, h1, h2, h3⟩ := h
  refine ⟨A, cap, e, h1, h2, fun hp => ?_⟩
  obtain ⟨b, o, eA, hb, hr⟩ := h3 hp
  exact ⟨b, o, eA, Nat.lt_of_lt_of_le hb hB, fun j hj => hi j b _ hj hb (hr j hj)⟩
theorem range_keep {w w' : World} {B b o : Nat} {vs : List Value} (h : w.rangeAt b o vs) (hb : Below B w w') (hlt : b < B) : w'.rangeAt b o vs := fun j v hv => by
  rw [hb.cell (p := ⟨b, o + j, none⟩) hlt]; exact h j v hv
/-- A list of byte strings. -/
def Ws (w : World) (B : Nat) (v : Value) (Ls : List (List (BitVec 8))) : Prop :=
  Row w B v Ls.length 1 fun j b o => ∃ u, w.cell? ⟨b, o, none⟩ = some u ∧ Sl w B u (Ls.getD j [])
theorem Ws.keep {w w' : World} {B B' : Nat} {v : Value} {Ls : List (List (BitVec 8))} (h : Ws w B v Ls) (hb : Below B' w w') (hB : B ≤ B') : Ws w' B v Ls :=
  Row.imp h (Nat.le_refl _) fun j b o _ hlt ⟨u, hc, hs⟩ => ⟨u, by rw [hb.cell (p := ⟨b, o, none⟩) (Nat.lt_of_lt_of_le hlt hB)]; exact hc, hs.keep hb hB⟩
theorem Ws.up {w : World} {B B' : Nat} {v : Value} {Ls : List (List (BitVec 8))} (h : Ws w B v Ls) (hB : B ≤ B') : Ws w B' v Ls :=
  Row.imp h hB fun j b o _ _ ⟨u, hc, hs⟩ => ⟨u, hc, hs.up hB⟩
/-- An input, less what lies elsewhere. -/
structure TIn where
  tx : List (BitVec 8)
  ix : Nat
  sc : List (BitVec 8)
  sq : Nat
  wt : List (List (BitVec 8))
structure TOut where
  vl : Int
  sc : List (BitVec 8)
structure TTx where
  ver : Nat
  ins : List TIn
  outs : List TOut
  lock : Nat
/-- An input's cells. -/
def inV (x : TIn) (s v : Value) : List Value := vbs x.tx ++ [.int .u32 (x.ix : Int), s, .int .u32 (x.sq : Int), v]
def outV (y : TOut) (s : Value) : List Value := [.int .i64 y.vl, s]
/-- What an input's cells lead to. -/
def InOk (w : World) (B : Nat) (x : TIn) (s v : Value) : Prop := Sl w B s x.sc ∧ Ws w B v x.wt ∧ x.tx.length = 32 ∧ x.ix < 4294967296 ∧ x.sq < 4294967296
def OutOk (w : World) (B : Nat) (y : TOut) (s : Value) : Prop := Sl w B s y.sc ∧ -9223372036854775808 ≤ y.vl ∧ y.vl < 9223372036854775808
theorem InOk.keep {w w' : World} {B B' : Nat} {x : TIn} {s v : Value} (h : InOk w B x s v) (hb : Below B' w w') (hB : B ≤ B') : InOk w' B x s v := ⟨h.1.keep hb hB, h.2.1.keep hb hB, h.2.2⟩
theorem InOk.up {w : World} {B B' : Nat} {x : TIn} {s v : Value} (h : InOk w B x s v) (hB : B ≤ B') : InOk w B' x s v := ⟨h.1.up hB, h.2.1.up hB, h.2.2⟩
theorem OutOk.keep {w w' : World} {B B' : Nat} {y : TOut} {s : Value} (h : OutOk w B y s) (hb : Below B' w w') (hB : B ≤ B') : OutOk w' B y s := ⟨h.1.keep hb hB, h.2⟩
theorem OutOk.up {w : World} {B B' : Nat} {y : TOut} {s : Value} (h : OutOk w B y s) (hB : B ≤ B') : OutOk w B' y s := ⟨h.1.up hB, h.2⟩
def In0 : TIn := ⟨[], 0, [], 0, []⟩
def Out0 : TOut := ⟨0, []⟩
/-- A list of inputs, of outputs. -/
def Is (w : World) (B : Nat) (v : Value) (xs : List TIn) : Prop :=
  Row w B v xs.length 36 fun j b o => ∃ s u, w.rangeAt b o (inV (xs.getD j In0) s u) ∧ InOk w B (xs.getD j In0) s u
def Os (w : World) (B : Nat) (v : Value) (ys : List TOut) : Prop :=
  Row w B v ys.length 2 fun j b o => ∃ s, w.rangeAt b o (outV (ys.getD j Out0) s) ∧ OutOk w B (ys.getD j Out0) s
theorem Is.keep {w w' : World} {B B' : Nat} {v : Value} {xs : List TIn} (h : Is w B v xs) (hb : Below B' w w') (hB : B ≤ B') : Is w' B v xs :=
  Row.imp h (Nat.le_refl _) fun j b o _ hlt ⟨s, u, hc, hs⟩ => ⟨s, u, range_keep hc hb (Nat.lt_of_lt_of_le hlt hB), hs.keep hb hB⟩
theorem Is.up {w : World} {B B' : Nat} {v : Value} {xs : List TIn} (h : Is w B v xs) (hB : B ≤ B') : Is w B' v xs :=
  Row.imp h hB fun j b o _ _ ⟨s, u, hc, hs⟩ => ⟨s, u, hc, hs.up hB⟩
theorem Os.keep {w w' : World} {B B' : Nat} {v : Value} {ys : List TOut} (h : Os w B v ys) (hb : Below B' w w') (hB : B ≤ B') : Os w' B v ys :=
  Row.imp h (Nat.le_refl _) fun j b o _ hlt ⟨s, hc, hs⟩ => ⟨s, range_keep hc hb (Nat.lt_of_lt_of_le hlt hB), hs.keep hb hB⟩
theorem Os.up {w : World} {B B' : Nat} {v : Value} {ys : List TOut} (h : Os w B v ys) (hB : B ≤ B') : Os w B' v ys :=
  Row.imp h hB fun j b o _ _ ⟨s, hc, hs⟩ => ⟨s, hc, hs.up hB⟩
/-- A transaction, by value. -/
def txV (t : TTx) (i o : Value) : Value := .agg #[.int .u32 (t.ver : Int), i, o, .int .u32 (t.lock : Int)]
def TxOk (w : World) (B : Nat) (t : TTx) (i o : Value) : Prop := Is w B i t.ins ∧ Os w B o t.outs ∧ t.ver < 4294967296 ∧ t.lock < 4294967296
theorem TxOk.keep {w w' : World} {B B' : Nat} {t : TTx} {i o : Value} (h : TxOk w B t i o) (hb : Below B' w w') (hB : B ≤ B') : TxOk w' B t i o := ⟨h.1.keep hb hB, h.2.1.keep hb hB, h.2.2⟩
theorem TxOk.up {w : World} {B B' : Nat} {t : TTx} {i o : Value} (h : TxOk w B t i o) (hB : B ≤ B') : TxOk w B' t i o := ⟨h.1.up hB, h.2.1.up hB, h.2.2⟩
/-- What a call that tells a bool, and makes memory perhaps, leaves behind. -/
def BoolPost (b : Bool) (w : World) (e : Ending) (w' : World) : Prop := e = .returned (.bool b) ∧ Below w.heap.size w w'
theorem inV_len {x : TIn} {s v : Value} (h : x.tx.length = 32) : (inV x s v).length = 36 := by simp [inV, vbs_len, h]
theorem inV_at {x : TIn} {s v : Value} (h : x.tx.length = 32) : (inV x s v)[32]? = some (.int .u32 (x.ix : Int)) ∧ (inV x s v)[33]? = some s ∧ (inV x s v)[34]? = some (.int .u32 (x.sq : Int)) ∧ (inV x s v)[35]? = some v := by
  have hl : (vbs x.tx).length = 32 := by rw [vbs_len, h]
  unfold inV
  refine ⟨?_, ?_, ?_, ?_⟩ <;> (rw [List.getElem?_append_right (by omega), hl]; rfl)
theorem inV_tx {x : TIn} {s v : Value} {j : Nat} (hj : j < x.tx.length) : (inV x s v)[j]? = some (.int .u8 (Bt (x.tx.getD j 0))) := by
  unfold inV
  rw [List.getElem?_append_left (by rw [vbs_len]; exact hj)]
  exact vbs_at hj
open Go.RowKit
set_option linter.unusedVariables false
set_option linter.unusedSimpArgs false
set_option maxRecDepth 100000
def fitE (n : Nat) : Int := if n = 0 then 4 else if 16 < n then 3 else 0
theorem fits_any (n : Nat) (w : World) : Calls Try.prog 76 #[.int .i64 (n : Int), .int .i64 16] w fun e w' => e = .returned (.int .i64 (fitE n)) ∧ w = w' := by
  by_cases h0 : n = 0
  · subst h0
    go_enter Try.func76, Try.ntmps76
    go_wp2
    go_ret
    exact ⟨rfl, rfl⟩
  · have h1 : ((n : Int) == 0) = false := by simp; omega
    by_cases h2 : 16 < n
    · have e : fitE n = 3 := by unfold fitE; rw [if_neg h0, if_pos h2]
      have h3 : (16 : Int) < (n : Int) := by omega
      rw [e]
      clear e h0 h2
      go_enter Try.func76, Try.ntmps76
      go_wp2
      go_ret
      exact ⟨rfl, rfl⟩
    · have e : fitE n = 0 := by unfold fitE; rw [if_neg h0, if_neg h2]
      have h3 : ¬ (16 : Int) < (n : Int) := by omega
      rw [e]
      clear e h0 h2
      go_enter Try.func76, Try.ntmps76
      go_wp2
      go_ret
      exact ⟨rfl, rfl⟩
/-- Is a text longer than scripts and items may be? -/
def lng (L : List (BitVec 8)) : Bool := decide (128 < L.length)
theorem item_any (v : Value) (L : List (BitVec 8)) (B : Nat) (w : World) (h : Sl w B v L) : Calls Try.prog 96 #[v] w (BoolPost (lng L) w) := by
  obtain ⟨A, cap, rfl, _⟩ := h
  have hb := Below.refl w.heap.size w
  by_cases h1 : 128 < L.length
  · have e : lng L = true := by unfold lng; simpa using h1
    have h2 : (128 : Int) < (L.length : Int) := by omega
    rw [e]
    clear e h1
    go_enter Try.func96, Try.ntmps96
    go_wp2
    go_ret
    exact ⟨rfl, hb⟩
  · have e : lng L = false := by unfold lng; simpa using h1
    have h2 : ¬ (128 : Int) < (L.length : Int) := by omega
    rw [e]
    clear e h1
    go_enter Try.func96, Try.ntmps96
    go_wp2
    go_ret
    exact ⟨rfl, hb⟩
/-- What IndexFunc tells: a place that is there just if b. -/
def IxPost (b : Bool) (w : World) (e : Ending) (w' : World) : Prop := ∃ r : Int, -1 ≤ r ∧ r ≤ 9223372036854775807 ∧ e = .returned (.int .i64 r) ∧ decide (0 ≤ r) = b ∧ Below w.heap.size w w'
theorem any_take_succ {α : Type} (l : List α) (d : α) (f : α → Bool) (i : Nat) (h : i < l.length) : (l.take (i + 1)).any f = ((l.take i).any f || f (l.getD i d)) := by
  rw [List.take_succ_eq_append_getElem h, List.any_append]
  simp [List.getD, h]
theorem any_at {α : Type} (l : List α) (d : α) (f : α → Bool) (i : Nat) (h : i < l.length) (hf : f (l.getD i d) = true) : l.any f = true := by
  have e : l.getD i d = l[i] := by simp [List.getD, h]
  rw [e] at hf
  exact List.any_eq_true.2 ⟨_, List.getElem_mem h, hf⟩
set_option maxHeartbeats 4000000 in
theorem index_items (v : Value) (Ls : List (List (BitVec 8))) (w : World) (h : Ws w w.heap.size v Ls) :
    Calls Try.prog 100 #[v, .func (.func 96) #[] #[]] w (IxPost (Ls.any lng) w) := by
  obtain ⟨A, cap, rfl, hl, hm, hr⟩ := h
  have HR := Lib.hid hr
  have hm2 : Ls.length ≤ 9223372036854775807 := by omega
  obtain ⟨n, hn⟩ : ∃ n, n = Ls.length := ⟨_, rfl⟩
  have Hn := Lib.hid hn
  rw [← hn] at hm2 ⊢
  clear hr hn hl hm
  go_enter Try.func100, Try.ntmps100
  go_wp2_with fail
  go_loopw [8] (fun iv wq => ∃ i : Nat, i ≤ n ∧ iv = .int .i64 (i : Int) ∧ (Ls.take i).any lng = false ∧ Below w.heap.size w wq) (fun iv _ => n - (intOf iv).toNat)
  case atStart => exact ⟨0, Nat.zero_le _, rfl, rfl, Below.refl _ _⟩
  case round =>
    obtain ⟨i, hi, rfl, ha, hb⟩ := hrel
    have HA := Lib.hid ha
    have HB := Lib.hid hb
    clear ha hb
    by_cases hlt : i < n
    · have hlt' : (i : Int) < (n : Int) := by omega
      obtain ⟨b, o, rfl, hbl, hc⟩ := HR.out (by rw [← Hn.out]; omega)
      obtain ⟨u, cu, hs⟩ := hc i (by rw [← Hn.out]; exact hlt)
      rw [Nat.mul_one] at cu
      have c0 : wr.cell? ⟨b, o + i, none⟩ = some u := by rw [HB.out.cell (p := ⟨b, o + i, none⟩) hbl]; exact cu
      have K83 := Lib.hid (item_any u (Ls.getD i []) w.heap.size wr (hs.keep HB.out (Nat.le_refl _)))
      have hst := any_take_succ Ls [] lng i (by rw [← Hn.out]; exact hlt)
      have hat := any_at Ls [] lng i (by rw [← Hn.out]; exact hlt)
      rw [HA.out, Bool.false_or] at hst
      cases hq : lng (Ls.getD i []) with
      | true =>
        have HT := Lib.hid (hat hq)
        rw [hq] at K83
        clear hst hat hq cu hs hc
        go_wp2_with (go_at_call 96; (with_reducible refine K83.out.mono ?_); rintro e w2 ⟨rfl, hb2⟩; dsimp only)
        go_ret
        exact ⟨_, by omega, by omega, rfl, by rw [HT.out]; simp, HB.out.trans (hb2.mono HB.out.size)⟩
      | false =>
        rw [hq] at hst K83
        have HT := Lib.hid hst
        clear hst hat hq cu hs hc
        go_wp2_with (go_at_call 96; (with_reducible refine K83.out.mono ?_); rintro e w2 ⟨rfl, hb2⟩; dsimp only)
        go_roundw
        case rel => exact ⟨i + 1, by omega, by go_num, HT.out, HB.out.trans (hb2.mono HB.out.size)⟩
        case measure => simp [intOf]; omega
    · obtain rfl : i = n := by omega
      have hlt' : ¬ (i : Int) < (i : Int) := by omega
      have e : Ls.any lng = false := by have := HA.out; rwa [List.take_of_length_le (by rw [Hn.out]; exact Nat.le_refl _)] at this
      have HE := Lib.hid e
      clear e
      go_wp2_with fail
      go_ret
      exact ⟨-1, by omega, by omega, rfl, by rw [HE.out]; rfl, HB.out⟩
open Go.RowKit
set_option linter.unusedVariables false
set_option linter.unusedSimpArgs false
set_option maxRecDepth 100000
/-- The error of a count of inputs or outputs that s begins with. -/
def pE (s : Option (List (BitVec 8))) : Int := if gE s 16 = 0 then fitE (gN s) else gE s 16
/-- That count, where it could be read. -/
def pN (s : Option (List (BitVec 8))) : Nat := gV s 16
def CountPost (x : Nat) (c : Int) (s : Option (List (BitVec 8))) (B : Nat) (p : Option Nat) (w : World) (e : Ending) (w' : World) : Prop :=
  e = .returned (.tuple #[.int .i64 x, .int .i64 c]) ∧ IsR w' B p s ∧ w.grownBy w' p
theorem parsedCount_any (p : Option Nat) (s : Option (List (BitVec 8))) (B : Nat) (w : World) (h : IsR w B p s) (hB : B ≤ w.heap.size) :
    Calls Try.prog 89 #[ptr p, .int .i64 16] w (CountPost (pN s) (pE s) (gS s) B p w) := by
  have K : Hid (Calls Try.prog 35 #[ptr p, .int .u64 16] w (GetPost (gV s 16) (gE s 16) (gS s) B p w)) := get_any p s 16 B w h hB
  obtain ⟨P, hP⟩ : ∃ P, P = ptr p := ⟨_, rfl⟩
  by_cases he : gE s 16 = 0
  · have hN := gE_ne s 16 he
    have eV : gV s 16 = gN s := by unfold gV; rw [if_pos he]
    have eN : pN s = gN s := eV
    have eE : pE s = fitE (gN s) := by unfold pE; rw [if_pos he]
    rw [eN, eE]
    rw [he, eV] at K
    obtain ⟨x, hx⟩ : ∃ x, x = gN s := ⟨_, rfl⟩
    rw [← hx] at K hN ⊢
    obtain ⟨S, hS⟩ : ∃ S, S = gS s := ⟨_, rfl⟩
    rw [← hS] at K ⊢
    have hx1 : (x : Int) ≤ 16 := by omega
    have KF := Lib.hid (fun wq => fits_any x wq)
    rw [← hP] at K ⊢
    clear h hB he hN eV eN eE hx hS hP
    go_enter Try.func89, Try.ntmps89
    go_wp2_with (first
      | (go_at_call 35; (with_reducible refine K.out.mono ?_); rintro e w1 ⟨rfl, hi, hg⟩; have HI := Lib.hid hi; have HG := Lib.hid hg; clear hi hg K; dsimp only)
      | (go_at_call 76; (with_reducible refine (KF.out _).mono ?_); rintro e w' ⟨rfl, rfl⟩; dsimp only))
    go_ret2
    exact ⟨rfl, HI.out, HG.out⟩
  · have eV : gV s 16 = 0 := by unfold gV; rw [if_neg he]
    have eN : pN s = 0 := eV
    have eE : pE s = gE s 16 := by unfold pE; rw [if_neg he]
    rw [eN, eE]
    rw [eV] at K
    obtain ⟨c, hc⟩ : ∃ c, c = gE s 16 := ⟨_, rfl⟩
    rw [← hc] at K he ⊢
    have hc0 : (c != 0) = true := by simpa using he
    obtain ⟨S, hS⟩ : ∃ S, S = gS s := ⟨_, rfl⟩
    rw [← hS] at K ⊢
    rw [← hP] at K ⊢
    clear h hB he eV eN eE hc hS hP
    go_enter Try.func89, Try.ntmps89
    go_wp2_with (go_at_call 35; (with_reducible refine K.out.mono ?_); rintro e w1 ⟨rfl, hi, hg⟩; have HI := Lib.hid hi; have HG := Lib.hid hg; clear hi hg K; dsimp only)
    go_ret2
    exact ⟨rfl, HI.out, HG.out⟩
open Go.RowKit
set_option linter.unusedVariables false
section
variable {P : Program} {ops : Array Oper} {Q : Exit → Act → World → Prop} {md : Region.Mode} {S : World → Prop}
theorem AnyBut.firstE {z i : Nat} {oi : Oper} {v : Value} (hi : ops[i]? = some oi) (hsel : ∀ (j : Nat) (o : Oper) cs b, ops[j]? = some o → o.op ≠ .select cs b)
    (hQ : ∀ c a w, Q (.panic c) (a.put oi.dst v) w → Q (.panic c) a w) (hz : ops[z]? = none) :
    ∀ (n : Nat) (listed : Array Bool) (a : Act) (w : World),
      (∀ j oj, ops[j]? = some oj → j ≠ i → listed.getD j true = false → (∀ e ∈ oj.after, Region.binds md e = true → e.on ≠ i) → oi.apart ops oj = true) →
      i ∈ Region.ready md ops listed → YieldsIf P ops S oi v a → S w →
      AnyBut P md ops Q S z n (listed.setIfInBounds i true) (a.put oi.dst v) w → AnyBut P md ops Q S z (n + 1) listed a w
  | 0, listed, a, w, _, hr, hy, hS, H => by
    refine ⟨fun h => (by rw [h] at hr; cases hr), fun j hj => ?_⟩
    by_cases hji : j = i
    · subst hji; exact hy.wpOp hi hS ⟨fun _ => hS, H⟩
    · have hm := ready_mono hj hji
      rw [H.1] at hm
      cases hm
  | n + 1, listed, a, w, hfree, hr, hy, hS, H => by
    refine ⟨fun h => (by rw [h] at hr; cases hr), fun j hj => ?_⟩
    by_cases hji : j = i
    · subst hji; exact hy.wpOp hi hS ⟨fun _ => hS, H⟩
    · obtain ⟨hjun, oj, hoj, hall⟩ := mem_ready.1 hj
      have hjz : j ≠ z := fun e => by subst e; rw [hz] at hoj; cases hoj
      have hno : ∀ e ∈ oj.after, Region.binds md e = true → e.on ≠ i := fun e he hb heq => by
        have hw : waits md ops j i = true := by
          unfold waits
          rw [hoj]
          exact Array.any_eq_true'.2 ⟨e, he, by simp [hb, heq]⟩
        exact not_ready_of_waits hw hr hj
      have h2 := wpOp_putIf hoj (hfree j oj hoj hji hjun hno) (fun cs b => hsel i oi cs b hi) (fun cs b => hsel j oj cs b hoj) hQ hy (H.2 j (ready_mono hj hji))
      refine wpOp_mono (fun a' w' h3 => ⟨h3.2.1, AnyBut.firstE hi hsel hQ hz n (listed.setIfInBounds j true) a' w' (fun k ok hk hki hun hne => hfree k ok hk hki ?_ hne) (ready_mono hr (Ne.symm hji)) h3.1 (h3.2.1 hjz) ?_⟩) h2
      · by_cases hjk : j = k
        · subst hjk; exact hjun
        · rwa [getD_set_ne true hjk] at hun
      · rw [Array.setIfInBounds_comm _ _ hji]
        exact h3.2.2
theorem AnyBut.takeE {z i : Nat} {oi : Oper} {v : Value} {n : Nat} {listed : Array Bool} {a : Act} {w : World} (hi : ops[i]? = some oi)
    (hs : Region.noSelect ops = true) (hf : Region.free md ops listed i = true) (hr : (Region.ready md ops listed).contains i = true) (hz : ops[z]? = none)
    (hQ : ∀ c a w, Q (.panic c) (a.put oi.dst v) w → Q (.panic c) a w) (hy : YieldsIf P ops S oi v a) (hS : S w)
    (h : AnyBut P md ops Q S z n (listed.setIfInBounds i true) (a.put oi.dst v) w) : AnyBut P md ops Q S z (n + 1) listed a w :=
  AnyBut.firstE hi (Region.noSelect_spec hs) hQ hz n listed a w (Region.free_spec hi hf) (by simpa using hr) hy hS h
end
open Go.RowKit
set_option linter.unusedVariables false
section
variable {P : Program} {ops : Array Oper} {Q : Exit → Act → World → Prop} {md : Region.Mode} {S : World → Prop}
/-- Does operation j wait for operation i, at however many steps (at most so many)? -/
def reachB (md : Region.Mode) (ops : Array Oper) (i : Nat) : Nat → Nat → Bool
  | 0, j => waits md ops j i
  | f + 1, j => waits md ops j i || match ops[j]? with
    | some o => o.after.any fun e => Region.binds md e && reachB md ops i f e.on
    | none => false
def Closed (md : Region.Mode) (ops : Array Oper) (listed : Array Bool) : Prop :=
  ∀ j oj, ops[j]? = some oj → listed.getD j false = true → ∀ e ∈ oj.after, Region.binds md e = true → listed.getD e.on false = true
def closedB (md : Region.Mode) (ops : Array Oper) (listed : Array Bool) : Bool :=
  (List.range ops.size).all fun j => match ops[j]? with
    | some o => !(listed.getD j false) || o.after.all fun e => !(Region.binds md e) || listed.getD e.on false
    | none => true
theorem closed_of {listed : Array Bool} (h : closedB md ops listed = true) : Closed md ops listed := by
  intro j oj hj hl e he hb
  have hjs : j < ops.size := (Array.getElem?_eq_some_iff.1 hj).1
  have h1 := List.all_eq_true.1 h j (List.mem_range.2 hjs)
  rw [hj] at h1
  simp only [hl, Bool.not_true, Bool.false_or] at h1
  have h2 := Array.all_eq_true'.1 h1 e he
  simpa [hb] using h2
theorem reach_listed {listed : Array Bool} {i : Nat} (hc : Closed md ops listed) : ∀ f j, reachB md ops i f j = true →
    (∀ oj, ops[j]? = some oj → ∀ e ∈ oj.after, Region.binds md e = true → listed.getD e.on false = true) → listed.getD i false = true := by
  have direct : ∀ j, waits md ops j i = true → (∀ oj, ops[j]? = some oj → ∀ e ∈ oj.after, Region.binds md e = true → listed.getD e.on false = true) → listed.getD i false = true := by
    intro j h ha
    unfold waits at h
    split at h
    · rename_i o ho
      obtain ⟨e, he, hb⟩ := Array.any_eq_true'.1 h
      simp only [Bool.and_eq_true, beq_iff_eq] at hb
      rw [← hb.2]
      exact ha o ho e he hb.1
    · cases h
  intro f
  induction f with
  | zero => intro j h ha; exact direct j h ha
  | succ f ih =>
    intro j h ha
    unfold reachB at h
    rcases Bool.or_eq_true_iff.1 h with h | h
    · exact direct j h ha
    · split at h
      · rename_i o ho
        obtain ⟨e, he, hb⟩ := Array.any_eq_true'.1 h
        simp only [Bool.and_eq_true] at hb
        exact ih e.on hb.2 fun oj hoj e' he' hb' => hc e.on oj hoj (ha o ho e he hb.1) e' he' hb'
      · cases h
theorem closed_set {listed : Array Bool} {j : Nat} (hc : Closed md ops listed) (hj : j ∈ Region.ready md ops listed) : Closed md ops (listed.setIfInBounds j true) := by
  obtain ⟨_, oj, hoj, hall⟩ := mem_ready.1 hj
  have up : ∀ k, listed.getD k false = true → (listed.setIfInBounds j true).getD k false = true := fun k hk => getD_set_true hk
  intro k ok hk hl e he hb
  by_cases h : j = k
  · subst h
    have : ok = oj := Option.some.inj (hk.symm.trans hoj)
    subst this
    exact up _ (hall e he hb)
  · rw [getD_set_ne false h] at hl
    exact up _ (hc k ok hk hl e he hb)
/-- Whatever order is drawn from here on; behind each operation ahead of number z the condition S holds. -/
def AnyTo (P : Program) (md : Region.Mode) (ops : Array Oper) (Q : Exit → Act → World → Prop) (S : World → Prop) (z : Nat) : Nat → Array Bool → Act → World → Prop
  | 0, listed, a, w => Region.ready md ops listed = [] ∧ Q .normal a w
  | n + 1, listed, a, w => (Region.ready md ops listed = [] → Q .normal a w) ∧
      ∀ i ∈ Region.ready md ops listed, wpOp P ops Q i (fun a' w' => (i < z → S w') ∧ AnyTo P md ops Q S z n (listed.setIfInBounds i true) a' w') a w
theorem AnyTo.any {z : Nat} : ∀ (n : Nat) (listed : Array Bool) (a : Act) (w : World), AnyTo P md ops Q S z n listed a w → wpAny P md ops Q n listed a w
  | 0, _, _, _, h => h
  | n + 1, _, _, _, h => ⟨h.1, fun i hi => wpOp_mono (fun a' w' h' => AnyTo.any n _ a' w' h'.2) (h.2 i hi)⟩
theorem AnyTo.first {z i : Nat} {oi : Oper} {v : Value} (hi : ops[i]? = some oi) (hsel : ∀ (j : Nat) (o : Oper) cs b, ops[j]? = some o → o.op ≠ .select cs b)
    (hQ : ∀ c a w, Q (.panic c) (a.put oi.dst v) w → Q (.panic c) a w) (f : Nat) (hsk : ∀ j, z ≤ j → j < ops.size → reachB md ops i f j = true) :
    ∀ (n : Nat) (listed : Array Bool) (a : Act) (w : World),
      (∀ j oj, ops[j]? = some oj → j ≠ i → listed.getD j true = false → (∀ e ∈ oj.after, Region.binds md e = true → e.on ≠ i) → oi.apart ops oj = true) →
      i ∈ Region.ready md ops listed → Closed md ops listed → YieldsIf P ops S oi v a → S w →
      AnyTo P md ops Q S z n (listed.setIfInBounds i true) (a.put oi.dst v) w → AnyTo P md ops Q S z (n + 1) listed a w
  | 0, listed, a, w, _, hr, hcl, hy, hS, H => by
    refine ⟨fun h => (by rw [h] at hr; cases hr), fun j hj => ?_⟩
    by_cases hji : j = i
    · subst hji; exact hy.wpOp hi hS ⟨fun _ => hS, H⟩
    · have hm := ready_mono hj hji
      rw [H.1] at hm
      cases hm
  | n + 1, listed, a, w, hfree, hr, hcl, hy, hS, H => by
    refine ⟨fun h => (by rw [h] at hr; cases hr), fun j hj => ?_⟩
    by_cases hji : j = i
    · subst hji; exact hy.wpOp hi hS ⟨fun _ => hS, H⟩
    · obtain ⟨hjun, oj, hoj, hall⟩ := mem_ready.1 hj
      have hjz : j < z := by
        rcases Nat.lt_or_ge j z with h | h
        · exact h
        · exfalso
          have h1 := reach_listed hcl f j (hsk j h (Array.getElem?_eq_some_iff.1 hoj).1) (fun o ho e he hb => by
            have : o = oj := Option.some.inj (ho.symm.trans hoj)
            subst this
            exact hall e he hb)
          obtain ⟨hiun, _⟩ := mem_ready.1 hr
          rw [getD_both hiun] at h1
          cases h1
      have hno : ∀ e ∈ oj.after, Region.binds md e = true → e.on ≠ i := fun e he hb heq => by
        have hw : waits md ops j i = true := by
          unfold waits
          rw [hoj]
          exact Array.any_eq_true'.2 ⟨e, he, by simp [hb, heq]⟩
        exact not_ready_of_waits hw hr hj
      have h2 := wpOp_putIf hoj (hfree j oj hoj hji hjun hno) (fun cs b => hsel i oi cs b hi) (fun cs b => hsel j oj cs b hoj) hQ hy (H.2 j (ready_mono hj hji))
      refine wpOp_mono (fun a' w' h3 => ⟨h3.2.1, AnyTo.first hi hsel hQ f hsk n (listed.setIfInBounds j true) a' w' (fun k ok hk hki hun hne => hfree k ok hk hki ?_ hne) (ready_mono hr (Ne.symm hji)) (closed_set hcl hj) h3.1 (h3.2.1 hjz) ?_⟩) h2
      · by_cases hjk : j = k
        · subst hjk; exact hjun
        · rwa [getD_set_ne true hjk] at hun
      · rw [Array.setIfInBounds_comm _ _ hji]
        exact h3.2.2
theorem AnyTo.take {z i : Nat} {oi : Oper} {v : Value} {n : Nat} {listed : Array Bool} {a : Act} {w : World} (hi : ops[i]? = some oi)
    (hs : Region.noSelect ops = true) (hf : Region.free md ops listed i = true) (hr : (Region.ready md ops listed).contains i = true) (hcl : closedB md ops listed = true)
    (hsk : ((List.range ops.size).all fun j => decide (j < z) || reachB md ops i ops.size j) = true)
    (hQ : ∀ c a w, Q (.panic c) (a.put oi.dst v) w → Q (.panic c) a w) (hy : YieldsIf P ops S oi v a) (hS : S w)
    (h : AnyTo P md ops Q S z n (listed.setIfInBounds i true) (a.put oi.dst v) w) : AnyTo P md ops Q S z (n + 1) listed a w :=
  AnyTo.first hi (Region.noSelect_spec hs) hQ ops.size (fun j hj hjs => by
    have := List.all_eq_true.1 hsk j (List.mem_range.2 hjs)
    simpa [Nat.not_lt.2 hj] using this) n listed a w (Region.free_spec hi hf) (by simpa using hr) (closed_of hcl) hy hS h
theorem AnyTo.gone {z i : Nat} {o : Oper} {n : Nat} {listed : Array Bool} {a : Act} {w : World} (hr : Region.ready md ops listed = [i]) (ho : ops[i]? = some o) (hw : Region.wanted o (yielded ops a.tmps) = true)
    (h : ∀ K : Act → World → Prop, (∀ a' w', (i < z → S w') → AnyTo P md ops Q S z n (listed.setIfInBounds i true) a' w' → K a' w') → Oper.wp P o a w K Q) : AnyTo P md ops Q S z (n + 1) listed a w := by
  refine ⟨fun e => (by rw [hr] at e; cases e), fun j hj => ?_⟩
  rw [hr] at hj
  obtain rfl : j = i := by simpa using hj
  unfold wpOp
  rw [ho]
  simp only [hw, if_true]
  exact .inl (h _ fun _ _ h1 h2 => ⟨h1, h2⟩)
theorem AnyTo.done {z : Nat} {listed : Array Bool} {a : Act} {w : World} (hr : Region.ready md ops listed = []) (h : Q .normal a w) : ∀ n, AnyTo P md ops Q S z n listed a w
  | 0 => ⟨hr, h⟩
  | _ + 1 => ⟨fun _ => h, by rw [hr]; simp⟩
theorem wp_region_to {id z : Nat} {a : Act} {w : World} (S : World → Prop) (hm : P.follows .mixedOrders = true)
    (h : AnyTo P .any ops Q S z ops.size (Array.replicate ops.size false) a w.drew) : (Code.region id ops true).wp P Q a w :=
  wp_region_any hm (AnyTo.any _ _ _ _ h)
end
open Go.RowKit
set_option linter.unusedVariables false
set_option linter.unusedSimpArgs false
set_option maxRecDepth 100000
/-- A code, behind which J holds where it is no error, and E of that code where it is one. -/
def StepPost (J : World → Prop) (E : Int → World → Prop) (e : Ending) (w' : World) : Prop := ∃ c : Int, e = .returned (.int .i64 c) ∧ (c = 0 → J w') ∧ (c ≠ 0 → E c w')
set_option maxHeartbeats 4000000 in
theorem eachR_in (I : Nat → World → Prop) (E : Int → World → Prop) (A : Option Addr) (n cap b o cb : Nat) (w : World) (hA : 0 < n → A = some ⟨b, o, none⟩) (hn : n ≤ 1000000)
    (hK : ∀ i, i < n → ∀ wq, I i wq → Calls Try.prog 90 #[.pointer (some ⟨b, o + i * 36, none⟩), .pointer (some ⟨cb, 0, none⟩)] wq (StepPost (I (i + 1)) E)) (hC : I 0 w) :
    Calls Try.prog 82 #[.slice A n cap, .func (.func 90) #[] #[.pointer (some ⟨cb, 0, none⟩)]] w (StepPost (I n) E) := by
  have HK := Lib.hid hK
  have HC := Lib.hid hC
  have HA := Lib.hid hA
  clear hK hC hA
  go_enter Try.func82, Try.ntmps82
  go_wp2_with fail
  go_loopw [9] (fun iv wq => ∃ (i : Nat), i ≤ n ∧ iv = .int .i64 (i : Int) ∧ I i wq) (fun iv _ => n - (intOf iv).toNat)
  case atStart => exact ⟨0, Nat.zero_le _, rfl, HC.out⟩
  case round =>
    clear HC
    obtain ⟨i, hi, rfl, hC⟩ := hrel
    by_cases hlt : i < n
    · have hlt' : (i : Int) < (n : Int) := by omega
      obtain rfl := HA.out (by omega)
      have K := Lib.hid (HK.out i hlt wr hC)
      clear hC
      go_wp2_with (go_at_call 90; (with_reducible refine K.out.mono ?_); rintro e w2 ⟨c, rfl, h0, h1⟩; have H0 := Lib.hid h0; have H1 := Lib.hid h1; clear h0 h1; dsimp only; by_cases hc : c = 0; have hcb : (c != 0) = false := (by simp [hc]); rotate_left; have hcb : (c != 0) = true := (by simpa using hc); rotate_left)
      · go_roundw
        case rel => exact ⟨i + 1, by omega, by go_num, H0.out hc⟩
        case measure => simp [intOf]; omega
      · go_ret
        exact ⟨c, rfl, fun h => absurd h hc, H1.out⟩
    · obtain rfl : i = n := by omega
      have hlt' : ¬ (i : Int) < (i : Int) := by omega
      have HC := Lib.hid hC
      clear hC
      go_wp2_with fail
      go_ret
      exact ⟨0, rfl, fun _ => HC.out, fun h => absurd rfl h⟩
set_option maxHeartbeats 4000000 in
theorem eachR_wit (I : Nat → World → Prop) (E : Int → World → Prop) (A : Option Addr) (n cap b o cb : Nat) (w : World) (hA : 0 < n → A = some ⟨b, o, none⟩) (hn : n ≤ 1000000)
    (hK : ∀ i, i < n → ∀ wq, I i wq → Calls Try.prog 93 #[.pointer (some ⟨b, o + i * 36, none⟩), .pointer (some ⟨cb, 0, none⟩)] wq (StepPost (I (i + 1)) E)) (hC : I 0 w) :
    Calls Try.prog 82 #[.slice A n cap, .func (.func 93) #[] #[.pointer (some ⟨cb, 0, none⟩)]] w (StepPost (I n) E) := by
  have HK := Lib.hid hK
  have HC := Lib.hid hC
  have HA := Lib.hid hA
  clear hK hC hA
  go_enter Try.func82, Try.ntmps82
  go_wp2_with fail
  go_loopw [9] (fun iv wq => ∃ (i : Nat), i ≤ n ∧ iv = .int .i64 (i : Int) ∧ I i wq) (fun iv _ => n - (intOf iv).toNat)
  case atStart => exact ⟨0, Nat.zero_le _, rfl, HC.out⟩
  case round =>
    clear HC
    obtain ⟨i, hi, rfl, hC⟩ := hrel
    by_cases hlt : i < n
    · have hlt' : (i : Int) < (n : Int) := by omega
      obtain rfl := HA.out (by omega)
      have K := Lib.hid (HK.out i hlt wr hC)
      clear hC
      go_wp2_with (go_at_call 93; (with_reducible refine K.out.mono ?_); rintro e w2 ⟨c, rfl, h0, h1⟩; have H0 := Lib.hid h0; have H1 := Lib.hid h1; clear h0 h1; dsimp only; by_cases hc : c = 0; have hcb : (c != 0) = false := (by simp [hc]); rotate_left; have hcb : (c != 0) = true := (by simpa using hc); rotate_left)
      · go_roundw
        case rel => exact ⟨i + 1, by omega, by go_num, H0.out hc⟩
        case measure => simp [intOf]; omega
      · go_ret
        exact ⟨c, rfl, fun h => absurd h hc, H1.out⟩
    · obtain rfl : i = n := by omega
      have hlt' : ¬ (i : Int) < (i : Int) := by omega
      have HC := Lib.hid hC
      clear hC
      go_wp2_with fail
      go_ret
      exact ⟨0, rfl, fun _ => HC.out, fun h => absurd rfl h⟩
set_option maxHeartbeats 4000000 in
theorem eachR_out (I : Nat → World → Prop) (E : Int → World → Prop) (A : Option Addr) (n cap b o cb : Nat) (w : World) (hA : 0 < n → A = some ⟨b, o, none⟩) (hn : n ≤ 1000000)
    (hK : ∀ i, i < n → ∀ wq, I i wq → Calls Try.prog 92 #[.pointer (some ⟨b, o + i * 2, none⟩), .pointer (some ⟨cb, 0, none⟩)] wq (StepPost (I (i + 1)) E)) (hC : I 0 w) :
    Calls Try.prog 85 #[.slice A n cap, .func (.func 92) #[] #[.pointer (some ⟨cb, 0, none⟩)]] w (StepPost (I n) E) := by
  have HK := Lib.hid hK
  have HC := Lib.hid hC
  have HA := Lib.hid hA
  clear hK hC hA
  go_enter Try.func85, Try.ntmps85
  go_wp2_with fail
  go_loopw [9] (fun iv wq => ∃ (i : Nat), i ≤ n ∧ iv = .int .i64 (i : Int) ∧ I i wq) (fun iv _ => n - (intOf iv).toNat)
  case atStart => exact ⟨0, Nat.zero_le _, rfl, HC.out⟩
  case round =>
    clear HC
    obtain ⟨i, hi, rfl, hC⟩ := hrel
    by_cases hlt : i < n
    · have hlt' : (i : Int) < (n : Int) := by omega
      obtain rfl := HA.out (by omega)
      have K := Lib.hid (HK.out i hlt wr hC)
      clear hC
      go_wp2_with (go_at_call 92; (with_reducible refine K.out.mono ?_); rintro e w2 ⟨c, rfl, h0, h1⟩; have H0 := Lib.hid h0; have H1 := Lib.hid h1; clear h0 h1; dsimp only; by_cases hc : c = 0; have hcb : (c != 0) = false := (by simp [hc]); rotate_left; have hcb : (c != 0) = true := (by simpa using hc); rotate_left)
      · go_roundw
        case rel => exact ⟨i + 1, by omega, by go_num, H0.out hc⟩
        case measure => simp [intOf]; omega
      · go_ret
        exact ⟨c, rfl, fun h => absurd h hc, H1.out⟩
    · obtain rfl : i = n := by omega
      have hlt' : ¬ (i : Int) < (i : Int) := by omega
      have HC := Lib.hid hC
      clear hC
      go_wp2_with fail
      go_ret
      exact ⟨0, rfl, fun _ => HC.out, fun h => absurd rfl h⟩
set_option maxHeartbeats 4000000 in
theorem eachR_item (I : Nat → World → Prop) (E : Int → World → Prop) (A : Option Addr) (n cap b o cb : Nat) (w : World) (hA : 0 < n → A = some ⟨b, o, none⟩) (hn : n ≤ 1000000)
    (hK : ∀ i, i < n → ∀ wq, I i wq → Calls Try.prog 95 #[.pointer (some ⟨b, o + i, none⟩), .pointer (some ⟨cb, 0, none⟩)] wq (StepPost (I (i + 1)) E)) (hC : I 0 w) :
    Calls Try.prog 94 #[.slice A n cap, .func (.func 95) #[] #[.pointer (some ⟨cb, 0, none⟩)]] w (StepPost (I n) E) := by
  have HK := Lib.hid hK
  have HC := Lib.hid hC
  have HA := Lib.hid hA
  clear hK hC hA
  go_enter Try.func94, Try.ntmps94
  go_wp2_with fail
  go_loopw [9] (fun iv wq => ∃ (i : Nat), i ≤ n ∧ iv = .int .i64 (i : Int) ∧ I i wq) (fun iv _ => n - (intOf iv).toNat)
  case atStart => exact ⟨0, Nat.zero_le _, rfl, HC.out⟩
  case round =>
    clear HC
    obtain ⟨i, hi, rfl, hC⟩ := hrel
    by_cases hlt : i < n
    · have hlt' : (i : Int) < (n : Int) := by omega
      obtain rfl := HA.out (by omega)
      have K := Lib.hid (HK.out i hlt wr hC)
      clear hC
      go_wp2_with (go_at_call 95; (with_reducible refine K.out.mono ?_); rintro e w2 ⟨c, rfl, h0, h1⟩; have H0 := Lib.hid h0; have H1 := Lib.hid h1; clear h0 h1; dsimp only; by_cases hc : c = 0; have hcb : (c != 0) = false := (by simp [hc]); rotate_left; have hcb : (c != 0) = true := (by simpa using hc); rotate_left)
      · go_roundw
        case rel => exact ⟨i + 1, by omega, by go_num, H0.out hc⟩
        case measure => simp [intOf]; omega
      · go_ret
        exact ⟨c, rfl, fun h => absurd h hc, H1.out⟩
    · obtain rfl : i = n := by omega
      have hlt' : ¬ (i : Int) < (i : Int) := by omega
      have HC := Lib.hid hC
      clear hC
      go_wp2_with fail
      go_ret
      exact ⟨0, rfl, fun _ => HC.out, fun h => absurd rfl h⟩
open Go.RowKit
set_option linter.unusedVariables false
set_option linter.unusedSimpArgs false
set_option maxRecDepth 100000
set_option maxHeartbeats 4000000 in
theorem bput_any (A : Option Addr) (L : List (BitVec 8)) (cap B : Nat) (k : Int) (n : Nat) (w : World) (hR : Rd w B A L) (hB : B ≤ w.heap.size) (hn : n < 18446744073709551616) (hl : L.length ≤ 100000000) :
    Calls Try.prog 66 #[.slice A L.length cap, .int .i64 k, .int .u64 n] w (PutPost L k n w) := by
  have HW := Lib.hid (isWidth_any k w)
  by_cases hw : isW k = true
  · rw [hw] at HW
    have hk := isW_pos hw
    obtain ⟨m, rfl⟩ : ∃ m : Nat, k = m := ⟨k.toNat, by omega⟩
    have hmin : min (8 * m) 64 = 8 * m := by omega
    by_cases hlt : n < 2 ^ (8 * m)
    · have h0 : ((n : Int) / 2 ^ (8 * m) != 0) = false := by
        have : n / 2 ^ (8 * m) = 0 := Nat.div_eq_of_lt hlt
        have e : ((n : Int) / 2 ^ (8 * m)) = ((n / 2 ^ (8 * m) : Nat) : Int) := by simp
        rw [e, this]; rfl
      obtain ⟨cur, hcl, hmk⟩ := run_make22 L.length m (by omega) w
      have hm1 : 1 ≤ m := by omega
      have hm8 : m ≤ 8 := by omega
      have HR := Lib.hid hR
      have HBB := Lib.hid hB
      have HL := Lib.hid hl
      have HCl := Lib.hid hcl
      have HY := Lib.hid (show isW (m : Int) = true ∧ n < 2 ^ (8 * (m : Int).toNat) from ⟨hw, hlt⟩)
      clear hlt hR hcl hn hB hw hk
      go_enter Try.func66, Try.ntmps66
      go_upto_region 4 with (go_at_call 58; (with_reducible refine HW.out.mono ?_); rintro e w' ⟨rfl, rfl⟩; dsimp only)
      generalize hW1 : w.alloc (.cells cur.toArray 5) = W1
      have hB1 : Blk W1 w.heap.size 5 cur := by rw [← hW1]; exact Blk.new w 5 cur.toArray
      have hb1 : Below w.heap.size w W1 := by rw [← hW1]; exact (Below.refl _ _).alloc (Nat.le_refl _) _
      have HB1 := Lib.hid hB1
      have Hb1 := Lib.hid hb1
      have c1 : Hid ((vbs L).length = Nat.min L.length L.length) := show (vbs L).length = min L.length L.length by rw [vbs_len]; omega
      have c2 : Hid (0 < (vbs L).length → (some (⟨w.heap.size, 0, none⟩ : Addr)) = some ⟨w.heap.size, 0, none⟩ ∧ ∃ ad : Addr, A = some ad ∧ ∀ j v, (vbs L)[j]? = some v → W1.cell? (ad.add j) = some v) := fun hp => by
        rw [vbs_len] at hp
        obtain ⟨b, o, e, hlt, hc⟩ := HR.out hp
        refine ⟨rfl, ⟨b, o, none⟩, e, fun j v hv => ?_⟩
        have hj : j < L.length := by have := (List.getElem?_eq_some_iff.1 hv).1; rwa [vbs_len] at this
        rw [vbs_at hj] at hv
        rw [Addr.add_mid, Hb1.out.cell (p := ⟨b, o + j, none⟩) (by have := HBB.out; show b < _; omega), hc j hj]; exact hv
      have c3 : Hid (0 + (vbs L).length ≤ cur.length) := show 0 + (vbs L).length ≤ cur.length by rw [vbs_len, HCl.out]; omega
      clear hW1 hB1 hb1 hmk
      go_upto_region 5 with (refine wpList_copy_splice (o := ⟨some 29, _, _, _, _, _⟩) rfl (.tmp 27) (.tmp 28) 22 22 rfl 5 Try.underlying22 (by kernel_rfl) (some ⟨w.heap.size, 0, none⟩) A L.length (L.length + m) L.length cap rfl rfl w.heap.size 0 cur 5 HB1.out (vbs L) c1.out c2.out c3.out (vbs_one L) w.heap.size w Hb1.out (Nat.le_refl _) ?_; intro w2 hB2 hb2)
      have hO : OB w2 w.heap.size (.slice (some ⟨w.heap.size, 0, none⟩) L.length (L.length + m)) L := ob_of_splice HCl.out (by unfold maxLen; omega) hB2
      have HO := Lib.hid hO
      have Hb2 := Lib.hid hb2
      clear hO hb2 hB2 HB1 Hb1 c1 c2 c3 HR HCl
      go_wp2_with fail
      go_loopw [8, 31] (fun v i wq => ∃ j : Nat, j ≤ m ∧ i = .int .i64 j ∧ OB wq w.heap.size v (L ++ les n j) ∧ Below w.heap.size w wq) (fun _ i _ => m - (intOf i).toNat)
      case atStart => exact ⟨0, Nat.zero_le _, rfl, by simpa [les] using HO.out, Hb2.out⟩
      case round =>
        obtain ⟨j, hj, rfl, ho, hb⟩ := hrel
        by_cases hlt : j < m
        · have h0 : (0 : Int) ≤ (j : Int) := by omega
          have hmin2 : min (8 * j) 64 = 8 * j := by omega
          have hbv := byte_val n j
          obtain ⟨x, hx⟩ : ∃ x, x = BitVec.ofNat 8 (n / 2 ^ (8 * j)) := ⟨_, rfl⟩
          rw [← hx] at hbv
          have Hx := Lib.hid hx
          have HOo := Lib.hid (ho.alloc (.cells #[.int .u8 (Bt x)] 5))
          have hs := Lib.hid (src_one wr x)
          have HBo := Lib.hid (hb.alloc hb.size (.cells #[.int .u8 (Bt x)] 5))
          have HSz : Hid (w.heap.size ≤ (wr.alloc (.cells #[.int .u8 (Bt x)] 5)).heap.size) := HBo.out.size
          have HLe : Hid ((L ++ les n j).length + [x].length ≤ 140737488355328) := show (L ++ les n j).length + [x].length ≤ 140737488355328 by rw [List.length_append, les_len]; simp; omega
          clear ho hb hx
          go_wp2_with (refine wpList_push (o := ⟨some 41, _, _, _, _, _⟩) rfl (.tmp 34) (.tmp 40) rfl rfl w.heap.size _ _ [x] rfl HOo.out (some ⟨wr.heap.size, 0, none⟩) 1 1 rfl (one_len _) hs.out (fun h => by cases h) HLe.out HBo.out HSz.out (Nat.le_refl _) ?_; intro v' w' h1 h2 h3)
          go_roundw
          case rel => exact ⟨j + 1, by omega, by go_num, by rw [les_succ, ← Hx.out, ← List.append_assoc]; exact h1, h2⟩
          case measure => simp [intOf]; omega
        · obtain rfl : j = m := by omega
          have HOo := Lib.hid ho
          have HBo := Lib.hid hb
          clear ho hb
          go_wp2
          go_ret2
          exact ⟨HBo.out, fun _ => ⟨_, rfl, HOo.out⟩, fun h => absurd HY.out h⟩
    · have h0 : ((n : Int) / 2 ^ (8 * m) != 0) = true := by
        have e : ((n : Int) / 2 ^ (8 * m)) = ((n / 2 ^ (8 * m) : Nat) : Int) := by simp
        have h1 : 0 < n / 2 ^ (8 * m) := Nat.div_pos (by omega) (Nat.two_pow_pos _)
        rw [e]
        simp
        omega
      have hm1 : 1 ≤ m := by omega
      have hm8 : m ≤ 8 := by omega
      have HN : Hid (¬ (isW (m : Int) = true ∧ n < 2 ^ (8 * (m : Int).toNat))) := fun h => hlt h.2
      clear hlt hR hn hB hw hk hl
      go_enter Try.func66, Try.ntmps66
      go_wp2_with (go_at_call 58; (with_reducible refine HW.out.mono ?_); rintro e w' ⟨rfl, rfl⟩; dsimp only)
      go_ret2
      exact ⟨Below.refl _ _, fun h => absurd h HN.out, fun _ => rfl⟩
  · rw [show isW k = false by simpa using hw] at HW
    have HN := Lib.hid hw
    clear hR hl hn hB hw
    go_enter Try.func66, Try.ntmps66
    go_wp2_with (go_at_call 58; (with_reducible refine HW.out.mono ?_); rintro e w' ⟨rfl, rfl⟩; dsimp only)
    go_ret2
    exact ⟨Below.refl _ _, fun h => absurd h.1 HN.out, fun _ => rfl⟩
theorem number_any (k n : Nat) (w : World) (hk : isW k = true) (hn : n < 2 ^ (8 * k)) (hn64 : n < 18446744073709551616) : Calls Try.prog 80 #[.int .i64 (k : Int), .int .u64 (n : Int)] w (LaidPost (les n k) w) := by
  have h := bput_any none [] 0 0 k n w (fun h => by simp at h) (Nat.zero_le _) hn64 (by simp)
  have hy : isW (k : Int) = true ∧ n < 2 ^ (8 * (k : Int).toNat) := ⟨hk, hn⟩
  have K := Lib.hid h
  have HY := Lib.hid hy
  clear h hy hk hn
  go_enter Try.func80, Try.ntmps80
  go_wp2_with (go_at_call 66; (refine K.out.mono ?_); rintro e w2 ⟨hb, h1, h2⟩; obtain ⟨v, rfl, ho⟩ := h1 HY.out; have HO := Lib.hid ho; clear h1 h2 ho; dsimp only)
  go_ret
  exact ⟨_, rfl, by simpa using HO.out, hb⟩
theorem count_any (n : Nat) (w : World) (hn : n < 9223372036854775808) : Calls Try.prog 81 #[.int .i64 (n : Int)] w (LaidPost (form n) w) := by
  have h := put_any none [] 0 0 n w (fun h => by simp at h) (Nat.zero_le _) (by simp)
  rw [List.nil_append] at h
  have K := Lib.hid h
  have hw : IntKind.u64.wrap (n : Int) = (n : Int) := by rw [IntKind.wrap_u64]; omega
  clear h
  go_enter Try.func81, Try.ntmps81
  go_wp2_with (go_at_call 28; (refine K.out.mono ?_); rintro e w2 ⟨v, rfl, ho, hb⟩; have HO := Lib.hid ho; clear ho; dsimp only)
  go_ret
  exact ⟨_, rfl, HO.out, hb⟩
open Go.RowKit
set_option linter.unusedVariables false
set_option linter.unusedSimpArgs false
set_option maxRecDepth 100000
theorem contains84 (v f : Value) (b : Bool) (w : World) (h : Calls Try.prog 100 #[v, f] w (IxPost b w)) : Calls Try.prog 97 #[v, f] w (BoolPost b w) := by
  have K := Lib.hid h
  clear h
  go_enter Try.func97, Try.ntmps97
  go_wp2_with (go_at_call 100; (with_reducible refine K.out.mono ?_); rintro e w2 ⟨r, h1, h2, rfl, hb, hbl⟩; have HB := Lib.hid hb; clear hb; dsimp only)
  go_ret
  exact ⟨by rw [← HB.out]; rfl, hbl⟩
theorem contains50 (v f : Value) (b : Bool) (w : World) (h : Calls Try.prog 88 #[v, f] w (IxPost b w)) : Calls Try.prog 69 #[v, f] w (BoolPost b w) := by
  have K := Lib.hid h
  clear h
  go_enter Try.func69, Try.ntmps69
  go_wp2_with (go_at_call 88; (with_reducible refine K.out.mono ?_); rintro e w2 ⟨r, h1, h2, rfl, hb, hbl⟩; have HB := Lib.hid hb; clear hb; dsimp only)
  go_ret
  exact ⟨by rw [← HB.out]; rfl, hbl⟩
theorem contains71 (v f : Value) (b : Bool) (w : World) (h : Calls Try.prog 98 #[v, f] w (IxPost b w)) : Calls Try.prog 78 #[v, f] w (BoolPost b w) := by
  have K := Lib.hid h
  clear h
  go_enter Try.func78, Try.ntmps78
  go_wp2_with (go_at_call 98; (with_reducible refine K.out.mono ?_); rintro e w2 ⟨r, h1, h2, rfl, hb, hbl⟩; have HB := Lib.hid hb; clear hb; dsimp only)
  go_ret
  exact ⟨by rw [← HB.out]; rfl, hbl⟩
/-- Is an input's script or its witness too long? -/
def lngIn (x : TIn) : Bool := lng x.sc || decide (8 < x.wt.length) || x.wt.any lng
def lngOut (y : TOut) : Bool := lng y.sc
def wit (x : TIn) : Bool := decide (0 < x.wt.length)
theorem longIn_a (x : TIn) (C : Array Value) (A1 A2 : Option Addr) (n1 c1 n2 c2 : Nat) (b : Bool) (w : World) (h33 : C[33]? = some (.slice A1 n1 c1)) (h35 : C[35]? = some (.slice A2 n2 c2)) (h1 : (128 : Int) < (n1 : Int)) :
    Calls Try.prog 77 #[.agg C] w (BoolPost true w) := by
  have d33 : (w.alloc (.cells C 69)).cell? ⟨w.heap.size, 33, none⟩ = some (.slice A1 n1 c1) := cell_new rfl h33
  have d35 : (w.alloc (.cells C 69)).cell? ⟨w.heap.size, 35, none⟩ = some (.slice A2 n2 c2) := cell_new rfl h35
  have hb := (Below.refl w.heap.size w).alloc (Nat.le_refl _) (.cells C 69)
  have HB := Lib.hid hb
  clear h33 h35 hb
  go_enter Try.func77, Try.ntmps77
  go_wp2_with (fail)
  go_ret
  exact ⟨rfl, HB.out⟩
theorem longIn_b (x : TIn) (C : Array Value) (A1 A2 : Option Addr) (n1 c1 n2 c2 : Nat) (b : Bool) (w : World) (h33 : C[33]? = some (.slice A1 n1 c1)) (h35 : C[35]? = some (.slice A2 n2 c2)) (h1 : ¬ (128 : Int) < (n1 : Int)) (h2 : (8 : Int) < (n2 : Int)) :
    Calls Try.prog 77 #[.agg C] w (BoolPost true w) := by
  have d33 : (w.alloc (.cells C 69)).cell? ⟨w.heap.size, 33, none⟩ = some (.slice A1 n1 c1) := cell_new rfl h33
  have d35 : (w.alloc (.cells C 69)).cell? ⟨w.heap.size, 35, none⟩ = some (.slice A2 n2 c2) := cell_new rfl h35
  have hb := (Below.refl w.heap.size w).alloc (Nat.le_refl _) (.cells C 69)
  have HB := Lib.hid hb
  clear h33 h35 hb
  go_enter Try.func77, Try.ntmps77
  go_wp2_with (fail)
  go_ret
  exact ⟨rfl, HB.out⟩
theorem longIn_c (x : TIn) (C : Array Value) (A1 A2 : Option Addr) (n1 c1 n2 c2 : Nat) (b : Bool) (w : World) (h33 : C[33]? = some (.slice A1 n1 c1)) (h35 : C[35]? = some (.slice A2 n2 c2)) (h1 : ¬ (128 : Int) < (n1 : Int)) (h2 : ¬ (8 : Int) < (n2 : Int)) (h3 : ∀ wq, Below w.heap.size w wq → Calls Try.prog 97 #[.slice A2 n2 c2, .func (.func 96) #[] #[]] wq (BoolPost b wq)) :
    Calls Try.prog 77 #[.agg C] w (BoolPost b w) := by
  have d33 : (w.alloc (.cells C 69)).cell? ⟨w.heap.size, 33, none⟩ = some (.slice A1 n1 c1) := cell_new rfl h33
  have d35 : (w.alloc (.cells C 69)).cell? ⟨w.heap.size, 35, none⟩ = some (.slice A2 n2 c2) := cell_new rfl h35
  have hb := (Below.refl w.heap.size w).alloc (Nat.le_refl _) (.cells C 69)
  have HB := Lib.hid hb
  clear h33 h35 hb
  have K84 := Lib.hid (h3 _ HB.out)
  clear h3
  go_enter Try.func77, Try.ntmps77
  go_wp2_with (go_at_call 97; (with_reducible refine K84.out.mono ?_); rintro e w2 ⟨rfl, hb2⟩; dsimp only)
  go_ret
  exact ⟨rfl, HB.out.trans (hb2.mono HB.out.size)⟩
theorem longIn_any (x : TIn) (s u : Value) (w : World) (h : InOk w w.heap.size x s u) : Calls Try.prog 77 #[.agg (inV x s u).toArray] w (BoolPost (lngIn x) w) := by
  obtain ⟨hs, hu, h32, _, _⟩ := h
  obtain ⟨e32, e33, e34, e35⟩ := inV_at (x := x) (s := s) (v := u) h32
  have hu' := hu
  obtain ⟨A1, c1, rfl, _⟩ := hs
  obtain ⟨A2, c2, rfl, _⟩ := hu
  have g33 : (inV x (.slice A1 x.sc.length c1) (.slice A2 x.wt.length c2)).toArray[33]? = some (.slice A1 x.sc.length c1) := by simpa using e33
  have g35 : (inV x (.slice A1 x.sc.length c1) (.slice A2 x.wt.length c2)).toArray[35]? = some (.slice A2 x.wt.length c2) := by simpa using e35
  by_cases h1 : 128 < x.sc.length
  · have e : lngIn x = true := by unfold lngIn lng; simp [h1]
    rw [e]
    exact longIn_a x _ _ _ _ _ _ _ true w g33 g35 (by omega)
  · by_cases h2 : 8 < x.wt.length
    · have e : lngIn x = true := by unfold lngIn lng; simp [h2]
      rw [e]
      exact longIn_b x _ _ _ _ _ _ _ true w g33 g35 (by omega) (by omega)
    · have e : lngIn x = x.wt.any lng := by unfold lngIn lng; simp [h1, h2]
      rw [e]
      exact longIn_c x _ _ _ _ _ _ _ _ w g33 g35 (by omega) (by omega) fun wq hq => contains84 _ _ _ wq (index_items _ x.wt wq ((hu'.keep hq (Nat.le_refl _)).up hq.size))
theorem longOut_at (C : Array Value) (A1 : Option Addr) (n1 c1 : Nat) (b : Bool) (w : World) (h1 : C[1]? = some (.slice A1 n1 c1)) (hb : decide ((128 : Int) < (n1 : Int)) = b) :
    Calls Try.prog 79 #[.agg C] w (BoolPost b w) := by
  have d1 : (w.alloc (.cells C 71)).cell? ⟨w.heap.size, 1, none⟩ = some (.slice A1 n1 c1) := cell_new rfl h1
  have HB := Lib.hid ((Below.refl w.heap.size w).alloc (Nat.le_refl _) (.cells C 71))
  clear h1
  cases b with
  | true =>
    have h2 : (128 : Int) < (n1 : Int) := by simpa using hb
    clear hb
    go_enter Try.func79, Try.ntmps79
    go_wp2_with fail
    go_ret
    exact ⟨rfl, HB.out⟩
  | false =>
    have h2 : ¬ (128 : Int) < (n1 : Int) := by simpa using hb
    clear hb
    go_enter Try.func79, Try.ntmps79
    go_wp2_with fail
    go_ret
    exact ⟨rfl, HB.out⟩
theorem longOut_any (y : TOut) (s : Value) (w : World) (h : OutOk w w.heap.size y s) : Calls Try.prog 79 #[.agg (outV y s).toArray] w (BoolPost (lngOut y) w) := by
  obtain ⟨hs, _, _⟩ := h
  obtain ⟨A1, c1, rfl, _⟩ := hs
  exact longOut_at _ A1 y.sc.length c1 _ w rfl (by unfold lngOut lng; exact decide_eq_decide.2 (by omega))
theorem wit_at (C : Array Value) (A1 : Option Addr) (n1 c1 : Nat) (b : Bool) (w : World) (h1 : C[35]? = some (.slice A1 n1 c1)) (hb : decide ((0 : Int) < (n1 : Int)) = b) :
    Calls Try.prog 70 #[.agg C] w (BoolPost b w) := by
  have d1 : (w.alloc (.cells C 69)).cell? ⟨w.heap.size, 35, none⟩ = some (.slice A1 n1 c1) := cell_new rfl h1
  have HB := Lib.hid ((Below.refl w.heap.size w).alloc (Nat.le_refl _) (.cells C 69))
  clear h1
  cases b with
  | true =>
    have h2 : 0 < n1 := by simp at hb; omega
    clear hb
    go_enter Try.func70, Try.ntmps70
    go_wp2_with fail
    go_ret
    exact ⟨rfl, HB.out⟩
  | false =>
    have h2 : n1 = 0 := by simp at hb; omega
    subst h2
    clear hb
    go_enter Try.func70, Try.ntmps70
    go_wp2_with fail
    go_ret
    exact ⟨rfl, HB.out⟩
theorem wit_any (x : TIn) (s u : Value) (w : World) (h : InOk w w.heap.size x s u) : Calls Try.prog 70 #[.agg (inV x s u).toArray] w (BoolPost (wit x) w) := by
  obtain ⟨hs, hu, h32, _, _⟩ := h
  obtain ⟨e32, e33, e34, e35⟩ := inV_at (x := x) (s := s) (v := u) h32
  obtain ⟨A2, c2, rfl, _⟩ := hu
  exact wit_at _ A2 x.wt.length c2 _ w (by simpa using e35) (by unfold wit; exact decide_eq_decide.2 (by omega))
end Go.Proofs.Ytpamepkcbhoiaaa
