/- What the reader's Hash returns; what the document's own four returns; numbers of four bytes and back. -/
import Derived.Test.YtefiacnpbkancaaDoorHb
namespace Go.Proofs.YtefiacnpbkancaaDoor
open Go.RowKit
set_option linter.unusedVariables false
set_option linter.unusedSimpArgs false
set_option maxRecDepth 100000
theorem zero42 : ∀ w, (zeroValue 24).run Tryd.prog w = .ok (.agg (vbs Z32).toArray) w := fun _ => by kernel_rfl
theorem slice42 (b : Nat) (w : World) : (Instr.sliceAt 24 (.pointer (some ⟨b, 0, none⟩)) none none none).run Tryd.prog w = .ok (.slice (some ⟨b, 0, none⟩) 32 32) w := by
  rw [run_sliceAt_array_all w 24 _ (by kernel_rfl)]
  have hs : (sizeOf (Tryd.prog.elem 24)).run Tryd.prog w = .ok 1 w := by kernel_rfl
  have hl : Tryd.prog.arrayLen 24 = 32 := by kernel_rfl
  rw [hs, hl]
  rfl
theorem info42 : (Tryd.prog.info? 24).map (·.size) = some 32 := by kernel_rfl
theorem i42 {vs : List Value} (h : vs.length = 32) : (Tryd.prog.info? 24).map (·.size) = some vs.length := by rw [h]; exact info42
set_option maxHeartbeats 1000000 in
theorem hash_any (p : Option Nat) (s : Option (List (BitVec 8))) (B : Nat) (w : World) (h : IsR w B p s) (hB : B ≤ w.heap.size) :
    Calls Tryd.prog 25 #[ptr p] w (HashPost (hashL s) (cutS s 32) B p w) := by
  have hz := zero42
  have hB0 := (Blk.new w 24 (vbs Z32).toArray).alloc (.cells (vbs Z32).toArray 24)
  have hB1 := Blk.new (w.alloc (.cells (vbs Z32).toArray 24)) 24 (vbs Z32).toArray
  have hbW : Below w.heap.size w ((w.alloc (.cells (vbs Z32).toArray 24)).alloc (.cells (vbs Z32).toArray 24)) := ((Below.refl _ _).alloc (Nat.le_refl _) _).alloc (by simp) _
  have es : (w.alloc (.cells (vbs Z32).toArray 24)).heap.size = w.heap.size + 1 := by simp
  rw [es] at hB1
  have HC := Lib.hid (cut_any p s 32 B _ (h.below hbW hB))
  have HL := Lib.hid (hashL_len s)
  have HD : Hid (hashL s = if hasB s 32 then takeL s 32 else Z32) := rfl
  have HBB := Lib.hid hB
  have hlt : ∀ g, p = some g → g < w.heap.size := fun g e => by
    subst e
    cases s with
    | none => have := (h g rfl).1; omega
    | some L => obtain ⟨g', _, _, e, hg, _⟩ := h; cases e; omega
  have HLt := Lib.hid hlt
  obtain ⟨q, hq⟩ : ∃ q, q = ptr p := ⟨_, rfl⟩
  rw [← hq] at HC ⊢
  clear h hB hlt hq es
  go_enter Tryd.func25, Tryd.ntmps25
  go_upto_region 2 with fail
  generalize (w.alloc (.cells (vbs Z32).toArray 24)).alloc (.cells (vbs Z32).toArray 24) = W at hB0 hB1 hbW HC ⊢
  have HB0 := Lib.hid hB0
  have HB1 := Lib.hid hB1
  have HW := Lib.hid hbW
  clear hB0 hB1 hbW hz
  by_cases hs : hasB s 32 = true
  · have HS := Lib.hid hs
    have hD := HD.out
    rw [if_pos hs] at hD
    have HD2 := Lib.hid hD
    have HT : Hid (cutS s 32 = s.bind fun L => some (L.drop 32)) := by
      cases s with
      | none => cases hs
      | some L => rw [(cut_yes hs).2.1]; exact rfl
    have HE : Hid (∀ L, s = some L → takeL s 32 = L.take 32) := fun L e => by subst e; exact (cut_yes hs).1
    have HRl : Hid (∀ L, s = some L → (L.take 32).length = 32) := fun L e => by subst e; have := (cut_yes hs).2.2; simp at this ⊢; omega
    clear hs hD HD
    go_upto_region 3 with (go_at_call 35; (with_reducible refine HC.out.mono ?_); rintro e W1 hP; obtain ⟨hG, hN, hY⟩ := hP; obtain ⟨M, A, hM, rfl, hO, hA, hI0⟩ := hY HS.out; clear hN hY hA; have HM := Lib.hid hM; clear hM; dsimp only)
    rw [show ((32 : Int).toNat) = 32 from rfl] at hO hI0
    have hI : IsR W1 B p (cutS s 32) := by rw [HT.out, HM.out]; exact hI0
    obtain ⟨R, hR⟩ : ∃ R, R = M.take 32 := ⟨_, rfl⟩
    have hRl : R.length = 32 := by rw [hR]; exact HRl.out M HM.out
    have HR : Hid (R.length ≤ 32) := show R.length ≤ 32 by omega
    rw [← hR] at hO
    have HRd := Lib.hid hO.rd
    have hlenE : (32 : Nat) = R.length := hRl.symm
    have HX : Hid (splice (vbs Z32) 0 (vbs R) = vbs (hashL s)) := show splice (vbs Z32) 0 (vbs R) = vbs (hashL s) by
      rw [splice_all _ _ (by rw [vbs_len, vbs_len, hRl]; rfl), HD2.out, HE.out M HM.out, hR]
    have HRl0 := Lib.hid hRl
    clear hO hI0 hR HRl HE HD2 HT hRl hlenE HM
    have hb1 : Blk W1 (w.heap.size + 1) 24 (vbs Z32) := HB1.out.grown hG (fun e => by have := HLt.out _ e.symm; omega)
    have hb0 : Blk W1 w.heap.size 24 (vbs Z32) := HB0.out.grown hG (fun e => by have := HLt.out _ e.symm; omega)
    have hsl := slice42 (w.heap.size + 1) W1
    have c1 : Hid ((vbs R).length = Nat.min 32 32) := show (vbs R).length = min 32 32 by rw [vbs_len]; have := HRl0.out; omega
    have c2 : Hid (0 < (vbs R).length → (some (⟨w.heap.size + 1, 0, none⟩ : Addr)) = some ⟨w.heap.size + 1, 0, none⟩ ∧ ∃ ad : Addr, A = some ad ∧ ∀ j v, (vbs R)[j]? = some v → W1.cell? (ad.add j) = some v) := fun hp => by
      rw [vbs_len] at hp
      obtain ⟨b, o, e, hlt, hc⟩ := HRd.out hp
      refine ⟨rfl, ⟨b, o, none⟩, e, fun j v hv => ?_⟩
      have hj : j < R.length := by have := (List.getElem?_eq_some_iff.1 hv).1; rwa [vbs_len] at this
      rw [vbs_at hj] at hv
      rw [Addr.add_mid, hc j hj]; exact hv
    have c3 : Hid (0 + (vbs R).length ≤ (vbs Z32).length) := show 0 + (vbs R).length ≤ (vbs Z32).length by rw [vbs_len, vbs_len]; have := HR.out; simp [Z32]; omega
    have HB1' := Lib.hid hb1
    have HB0' := Lib.hid hb0
    have HG := Lib.hid hG
    have HI := Lib.hid hI
    clear hb1 hb0 hG hI HB0 HB1 HC
    go_upto_region 4 with (refine wpList_copy_splice (o := ⟨some 13, _, _, _, _, _⟩) rfl (.tmp 11) (.tmp 12) 27 27 rfl 5 Tryd.underlying27 (by kernel_rfl) (some ⟨w.heap.size + 1, 0, none⟩) A 32 32 32 32 rfl rfl (w.heap.size + 1) 0 (vbs Z32) 24 HB1'.out (vbs R) c1.out c2.out c3.out (vbs_one R) (w.heap.size + 1) W1 (Below.refl _ _) (Nat.le_refl _) ?_; intro w2 hB2 hb2)
    rw [HX.out] at hB2
    have hB2' : Blk w2 (w.heap.size + 1) 24 (vbs (hashL s)) := hB2
    have HRg := Lib.hid hB2'.range
    have hq0 : Blk w2 w.heap.size 24 (vbs Z32) := HB0'.out.below hb2 (by omega)
    have HTh : Hid (w2.there w.heap.size 0 32) := hq0.there
    have hlen : (vbs (hashL s)).length = 32 := by rw [vbs_len]; exact HL.out
    have HLn := Lib.hid hlen
    have HI42 := Lib.hid (i42 hlen)
    have HQ0 := Lib.hid hq0
    have HB2 := Lib.hid hb2
    clear hB2 hB2' hq0 hlen hb2 hsl c1 c2 c3 HB1' HB0'
    go_wp2_with (first | (with_reducible refine wpList_load_mid rfl 24 (.tmp 3) rfl (w.heap.size + 1) 0 rfl (vbs (hashL s)) _ HRg.out Tryd.underlying24 rfl HI42.out ?_) | (with_reducible refine wpList_store_mid rfl 24 (.tmp 2) (.tmp 14) rfl w.heap.size 0 (vbs (hashL s)).toArray rfl rfl (there_arr HTh.out HLn.out) (info_arr HI42.out) (all_oneCell_toArray (vbs_one _)) ?_))
    have hS := HQ0.out.setCells (vbs (hashL s)) (by rw [HLn.out]; rfl)
    have hlv := run_loadVar_mid (P := Tryd.prog) (w2.setCells w.heap.size 0 (vbs (hashL s))) w.heap.size 0 24 _ _ hS.range Tryd.underlying24 rfl HI42.out
    have hP : HashPost (hashL s) (cutS s 32) B p w (.returned (.agg (vbs (hashL s)).toArray)) (w2.setCells w.heap.size 0 (vbs (hashL s))) := by
      refine ⟨rfl, ?_, ?_⟩
      · exact (HI.out.below HB2.out (by have := HBB.out; omega)).keep fun b hb => heap_setCells _ _ _ _ (by have := HBB.out; omega)
      · refine ⟨?_, ?_, ?_, ?_, fun k hk hne => ?_⟩
        · rw [(setCells_same _ _ _ _).1, HB2.out.os, HG.out.os, HW.out.os]
        · rw [(setCells_same _ _ _ _).2.1, HB2.out.tape, HG.out.tape, HW.out.tape]
        · rw [(setCells_same _ _ _ _).2.2.1, HB2.out.output, HG.out.output, HW.out.output]
        · rw [(setCells_same _ _ _ _).2.2.2]; exact Nat.le_trans HW.out.size (Nat.le_trans HG.out.size HB2.out.size)
        · rw [heap_setCells _ _ _ _ (by omega), HB2.out.block k (by omega), HG.out.block k (Nat.lt_of_lt_of_le hk HW.out.size) hne, HW.out.block k hk]
    exact bodyPost_ret (v := .agg (vbs (hashL s)).toArray) (by simp [results, Tryd.results25, asAddr, Act.put, hlv]) rfl hP
  · have hs' : hasB s 32 = false := by simpa using hs
    have HS := Lib.hid hs'
    have hD := HD.out
    rw [if_neg hs] at hD
    have HD2 := Lib.hid hD
    have HT : Hid (cutS s 32 = none) := (cut_no hs').2
    clear hs hs' hD HD
    go_upto_region 3 with (go_at_call 35; (with_reducible refine HC.out.mono ?_); rintro e W1 hP; obtain ⟨hG, hN, hY⟩ := hP; obtain ⟨rfl, hI0⟩ := hN HS.out; clear hN hY; dsimp only)
    have hI : IsR W1 B p (cutS s 32) := by rw [HT.out]; exact hI0
    obtain ⟨R, hR⟩ : ∃ R : List (BitVec 8), R = [] := ⟨_, rfl⟩
    have hRl : R.length = 0 := by rw [hR]; rfl
    have HR : Hid (R.length ≤ 32) := show R.length ≤ 32 by omega
    have HRl0 := Lib.hid hRl
    have HRd := Lib.hid (show Rd W1 B none R from fun hp => by omega)
    have HX : Hid (splice (vbs Z32) 0 (vbs R) = vbs (hashL s)) := show splice (vbs Z32) 0 (vbs R) = vbs (hashL s) by
      rw [HD2.out, hR]; rfl
    clear hI0 hR hRl HD2 HT
    have hb1 : Blk W1 (w.heap.size + 1) 24 (vbs Z32) := HB1.out.grown hG (fun e => by have := HLt.out _ e.symm; omega)
    have hb0 : Blk W1 w.heap.size 24 (vbs Z32) := HB0.out.grown hG (fun e => by have := HLt.out _ e.symm; omega)
    have hsl := slice42 (w.heap.size + 1) W1
    have c1 : Hid ((vbs R).length = Nat.min 0 32) := show (vbs R).length = min 0 32 by rw [vbs_len]; have := HRl0.out; omega
    have c2 : Hid (0 < (vbs R).length → (some (⟨w.heap.size + 1, 0, none⟩ : Addr)) = some ⟨w.heap.size + 1, 0, none⟩ ∧ ∃ ad : Addr, none = some ad ∧ ∀ j v, (vbs R)[j]? = some v → W1.cell? (ad.add j) = some v) := fun hp => by
      rw [vbs_len] at hp
      obtain ⟨b, o, e, hlt, hc⟩ := HRd.out hp
      refine ⟨rfl, ⟨b, o, none⟩, e, fun j v hv => ?_⟩
      have hj : j < R.length := by have := (List.getElem?_eq_some_iff.1 hv).1; rwa [vbs_len] at this
      rw [vbs_at hj] at hv
      rw [Addr.add_mid, hc j hj]; exact hv
    have c3 : Hid (0 + (vbs R).length ≤ (vbs Z32).length) := show 0 + (vbs R).length ≤ (vbs Z32).length by rw [vbs_len, vbs_len]; have := HR.out; simp [Z32]; omega
    have HB1' := Lib.hid hb1
    have HB0' := Lib.hid hb0
    have HG := Lib.hid hG
    have HI := Lib.hid hI
    clear hb1 hb0 hG hI HB0 HB1 HC
    go_upto_region 4 with (refine wpList_copy_splice (o := ⟨some 13, _, _, _, _, _⟩) rfl (.tmp 11) (.tmp 12) 27 27 rfl 5 Tryd.underlying27 (by kernel_rfl) (some ⟨w.heap.size + 1, 0, none⟩) none 32 32 0 0 rfl rfl (w.heap.size + 1) 0 (vbs Z32) 24 HB1'.out (vbs R) c1.out c2.out c3.out (vbs_one R) (w.heap.size + 1) W1 (Below.refl _ _) (Nat.le_refl _) ?_; intro w2 hB2 hb2)
    rw [HX.out] at hB2
    have hB2' : Blk w2 (w.heap.size + 1) 24 (vbs (hashL s)) := hB2
    have HRg := Lib.hid hB2'.range
    have hq0 : Blk w2 w.heap.size 24 (vbs Z32) := HB0'.out.below hb2 (by omega)
    have HTh : Hid (w2.there w.heap.size 0 32) := hq0.there
    have hlen : (vbs (hashL s)).length = 32 := by rw [vbs_len]; exact HL.out
    have HLn := Lib.hid hlen
    have HI42 := Lib.hid (i42 hlen)
    have HQ0 := Lib.hid hq0
    have HB2 := Lib.hid hb2
    clear hB2 hB2' hq0 hlen hb2 hsl c1 c2 c3 HB1' HB0'
    go_wp2_with (first | (with_reducible refine wpList_load_mid rfl 24 (.tmp 3) rfl (w.heap.size + 1) 0 rfl (vbs (hashL s)) _ HRg.out Tryd.underlying24 rfl HI42.out ?_) | (with_reducible refine wpList_store_mid rfl 24 (.tmp 2) (.tmp 14) rfl w.heap.size 0 (vbs (hashL s)).toArray rfl rfl (there_arr HTh.out HLn.out) (info_arr HI42.out) (all_oneCell_toArray (vbs_one _)) ?_))
    have hS := HQ0.out.setCells (vbs (hashL s)) (by rw [HLn.out]; rfl)
    have hlv := run_loadVar_mid (P := Tryd.prog) (w2.setCells w.heap.size 0 (vbs (hashL s))) w.heap.size 0 24 _ _ hS.range Tryd.underlying24 rfl HI42.out
    have hP : HashPost (hashL s) (cutS s 32) B p w (.returned (.agg (vbs (hashL s)).toArray)) (w2.setCells w.heap.size 0 (vbs (hashL s))) := by
      refine ⟨rfl, ?_, ?_⟩
      · exact (HI.out.below HB2.out (by have := HBB.out; omega)).keep fun b hb => heap_setCells _ _ _ _ (by have := HBB.out; omega)
      · refine ⟨?_, ?_, ?_, ?_, fun k hk hne => ?_⟩
        · rw [(setCells_same _ _ _ _).1, HB2.out.os, HG.out.os, HW.out.os]
        · rw [(setCells_same _ _ _ _).2.1, HB2.out.tape, HG.out.tape, HW.out.tape]
        · rw [(setCells_same _ _ _ _).2.2.1, HB2.out.output, HG.out.output, HW.out.output]
        · rw [(setCells_same _ _ _ _).2.2.2]; exact Nat.le_trans HW.out.size (Nat.le_trans HG.out.size HB2.out.size)
        · rw [heap_setCells _ _ _ _ (by omega), HB2.out.block k (by omega), HG.out.block k (Nat.lt_of_lt_of_le hk HW.out.size) hne, HW.out.block k hk]
    exact bodyPost_ret (v := .agg (vbs (hashL s)).toArray) (by simp [results, Tryd.results25, asAddr, Act.put, hlv]) rfl hP
theorem les_lev : ∀ (L : List (BitVec 8)), les (lev L) L.length = L := by
  intro L
  apply List.ext_getElem
  · rw [les_len]
  · intro i h1 h2
    have key : ∀ (L : List (BitVec 8)) (i : Nat) (h : i < L.length), BitVec.ofNat 8 (lev L / 2 ^ (8 * i)) = L[i] := by
      intro L
      induction L with
      | nil => intro i h; simp at h
      | cons x r ih =>
        intro i h
        have hx := x.isLt
        cases i with
        | zero =>
          apply BitVec.eq_of_toNat_eq
          simp [lev]
          omega
        | succ i =>
          rw [show 8 * (i + 1) = 8 + 8 * i by omega, Nat.pow_add, ← Nat.div_div_eq_div_mul, lev, show (x.toNat + 256 * lev r) / 2 ^ 8 = lev r by omega]
          simpa using ih i (by simpa using h)
    have := key L i h2
    simpa [les] using this
theorem four_w (n : Nat) (w : World) (hn : n < 4294967296) : Calls Tryd.prog 19 #[.int .u32 (n : Int)] w fun e w' => ∃ A c, e = .returned (.slice A 4 c) ∧ OB w' w.heap.size (.slice A 4 c) (les n 4) ∧ Below w.heap.size w w' := by
  have K := Lib.hid (digits_any 4 n w (by omega) (by omega))
  have hwv : IntKind.u64.wrap (n : Int) = (n : Int) := by rw [IntKind.wrap_u64]; omega
  clear hn
  go_enter Tryd.func19, Tryd.ntmps19
  go_wp2_with (go_at_call 30; (refine K.out.mono ?_); rintro e w2 ⟨v, rfl, ho, hb⟩; obtain ⟨A, c, rfl, _, _⟩ := slice_form ho; rw [les_len] at ho ⊢; have HO := Lib.hid ho; clear ho; dsimp only)
  go_ret
  exact ⟨A, c, rfl, HO.out, hb⟩
end Go.Proofs.YtefiacnpbkancaaDoor
