/- What Hash and Open return, and what the reader is then. -/
import Derived.Test.YtnnceicjooahmaaRf
import Derived.Outline
namespace Go.Proofs.Ytnnceicjooahmaa
open Go.RowKit
set_option linter.unusedVariables false
set_option linter.unusedSimpArgs false
def Z32 : List (BitVec 8) := List.replicate 32 0
def hashL (s : Option (List (BitVec 8))) : List (BitVec 8) := if hasB s 32 then takeL s 32 else Z32
theorem hashL_len (s : Option (List (BitVec 8))) : (hashL s).length = 32 := by
  unfold hashL
  by_cases h : hasB s 32 = true
  · rw [if_pos h]
    cases s with
    | none => cases h
    | some L => rw [(cut_yes h).1]; have := (cut_yes h).2.2; simp at this ⊢; omega
  · rw [if_neg h]; rfl
theorem zero42 : ∀ w, (zeroValue 42).run Try.prog w = .ok (.agg (vbs Z32).toArray) w := fun _ => by kernel_rfl
theorem slice42 (b : Nat) (w : World) : (Instr.sliceAt 42 (.pointer (some ⟨b, 0, none⟩)) none none none).run Try.prog w = .ok (.slice (some ⟨b, 0, none⟩) 32 32) w := by
  rw [run_sliceAt_array_all w 42 _ (by kernel_rfl)]
  have hs : (sizeOf (Try.prog.elem 42)).run Try.prog w = .ok 1 w := by kernel_rfl
  have hl : Try.prog.arrayLen 42 = 32 := by kernel_rfl
  rw [hs, hl]
  rfl
theorem info42 : (Try.prog.info? 42).map (·.size) = some 32 := by kernel_rfl
theorem i42 {vs : List Value} (h : vs.length = 32) : (Try.prog.info? 42).map (·.size) = some vs.length := by rw [h]; exact info42
theorem splice_all (Z R : List Value) (h : R.length = Z.length) : splice Z 0 R = R := by simp [splice, h]
theorem heap_setCells (b : Nat) : ∀ (us : List Value) (o k : Nat) {w : World}, k ≠ b → (w.setCells b o us).heap[k]? = w.heap[k]?
  | [], _, _, _, _ => rfl
  | u :: us, o, k, w, h => by
    show ((w.setCell ⟨b, o, none⟩ u).setCells b (o + 1) us).heap[k]? = _
    rw [heap_setCells b us (o + 1) k h, Below.heap_setCell _ _ _ _ h]
theorem setCells_same (b : Nat) : ∀ (us : List Value) (o : Nat) (w : World), (w.setCells b o us).os = w.os ∧ (w.setCells b o us).tape = w.tape ∧ (w.setCells b o us).output = w.output ∧ (w.setCells b o us).heap.size = w.heap.size
  | [], _, _ => ⟨rfl, rfl, rfl, rfl⟩
  | u :: us, o, w => by
    obtain ⟨h1, h2, h3, h4⟩ := setCells_same b us (o + 1) (w.setCell ⟨b, o, none⟩ u)
    exact ⟨h1, h2, h3, by show ((w.setCell ⟨b, o, none⟩ u).setCells b (o + 1) us).heap.size = _; rw [h4]; simp [World.setCell]⟩
/-- What Hash tells, and leaves behind. -/
def HashPost (X : List (BitVec 8)) (s : Option (List (BitVec 8))) (B : Nat) (p : Option Nat) (w : World) (e : Ending) (w' : World) : Prop :=
  e = .returned (.agg (vbs X).toArray) ∧ IsR w' B p s ∧ w.grownBy w' p
set_option maxHeartbeats 1000000 in
theorem hash_any (p : Option Nat) (s : Option (List (BitVec 8))) (B : Nat) (w : World) (h : IsR w B p s) (hB : B ≤ w.heap.size) :
    Calls Try.prog 16 #[ptr p] w (HashPost (hashL s) (cutS s 32) B p w) := by
  have hz := zero42
  have hB0 := (Blk.new w 42 (vbs Z32).toArray).alloc (.cells (vbs Z32).toArray 42)
  have hB1 := Blk.new (w.alloc (.cells (vbs Z32).toArray 42)) 42 (vbs Z32).toArray
  have hbW : Below w.heap.size w ((w.alloc (.cells (vbs Z32).toArray 42)).alloc (.cells (vbs Z32).toArray 42)) := ((Below.refl _ _).alloc (Nat.le_refl _) _).alloc (by simp) _
  have es : (w.alloc (.cells (vbs Z32).toArray 42)).heap.size = w.heap.size + 1 := by simp
  rw [es] at hB1
  have HC := Lib.hid (cut_any p s 32 B _ (h.below hbW hB))
  have HL := Lib.hid (hashL_len s)
  have HD : Hid (hashL s = if hasB s 32 then takeL s 32 else Z32) := rfl
  have HBB := Lib.hid hB
  have hlt : ∀ g, p = some g → g < w.heap.size := fun g e => by
    subst e
    cases s with
    | none => have := (h g rfl).1; omega
    | some L => obtain ⟨g', _, _, e, hg, _⟩ := h; cases e; omega
  have HLt := Lib.hid hlt
  obtain ⟨q, hq⟩ : ∃ q, q = ptr p := ⟨_, rfl⟩
  rw [← hq] at HC ⊢
  clear h hB hlt hq es
  go_enter Try.func16, Try.ntmps16
  go_upto_region 2 with fail
  generalize (w.alloc (.cells (vbs Z32).toArray 42)).alloc (.cells (vbs Z32).toArray 42) = W at hB0 hB1 hbW HC ⊢
  have HB0 := Lib.hid hB0
  have HB1 := Lib.hid hB1
  have HW := Lib.hid hbW
  clear hB0 hB1 hbW hz
  by_cases hs : hasB s 32 = true
  · have HS := Lib.hid hs
    have hD := HD.out
    rw [if_pos hs] at hD
    have HD2 := Lib.hid hD
    have HT : Hid (cutS s 32 = s.bind fun L => some (L.drop 32)) := by
      cases s with
      | none => cases hs
      | some L => rw [(cut_yes hs).2.1]; exact rfl
    have HE : Hid (∀ L, s = some L → takeL s 32 = L.take 32) := fun L e => by subst e; exact (cut_yes hs).1
    have HRl : Hid (∀ L, s = some L → (L.take 32).length = 32) := fun L e => by subst e; have := (cut_yes hs).2.2; simp at this ⊢; omega
    clear hs hD HD
    go_upto_region 3 with (go_at_call 30; (with_reducible refine HC.out.mono ?_); rintro e W1 hP; obtain ⟨hG, hN, hY⟩ := hP; obtain ⟨M, A, hM, rfl, hO, hA, hI0⟩ := hY HS.out; clear hN hY hA; have HM := Lib.hid hM; clear hM; dsimp only)
    rw [show ((32 : Int).toNat) = 32 from rfl] at hO hI0
    have hI : IsR W1 B p (cutS s 32) := by rw [HT.out, HM.out]; exact hI0
    obtain ⟨R, hR⟩ : ∃ R, R = M.take 32 := ⟨_, rfl⟩
    have hRl : R.length = 32 := by rw [hR]; exact HRl.out M HM.out
    have HR : Hid (R.length ≤ 32) := show R.length ≤ 32 by omega
    rw [← hR] at hO
    have HRd := Lib.hid hO.rd
    have hlenE : (32 : Nat) = R.length := hRl.symm
    have HX : Hid (splice (vbs Z32) 0 (vbs R) = vbs (hashL s)) := show splice (vbs Z32) 0 (vbs R) = vbs (hashL s) by
      rw [splice_all _ _ (by rw [vbs_len, vbs_len, hRl]; rfl), HD2.out, HE.out M HM.out, hR]
    have HRl0 := Lib.hid hRl
    clear hO hI0 hR HRl HE HD2 HT hRl hlenE HM
    have hb1 : Blk W1 (w.heap.size + 1) 42 (vbs Z32) := HB1.out.grown hG (fun e => by have := HLt.out _ e.symm; omega)
    have hb0 : Blk W1 w.heap.size 42 (vbs Z32) := HB0.out.grown hG (fun e => by have := HLt.out _ e.symm; omega)
    have hsl := slice42 (w.heap.size + 1) W1
    have c1 : Hid ((vbs R).length = Nat.min 32 32) := show (vbs R).length = min 32 32 by rw [vbs_len]; have := HRl0.out; omega
    have c2 : Hid (0 < (vbs R).length → (some (⟨w.heap.size + 1, 0, none⟩ : Addr)) = some ⟨w.heap.size + 1, 0, none⟩ ∧ ∃ ad : Addr, A = some ad ∧ ∀ j v, (vbs R)[j]? = some v → W1.cell? (ad.add j) = some v) := fun hp => by
      rw [vbs_len] at hp
      obtain ⟨b, o, e, hlt, hc⟩ := HRd.out hp
      refine ⟨rfl, ⟨b, o, none⟩, e, fun j v hv => ?_⟩
      have hj : j < R.length := by have := (List.getElem?_eq_some_iff.1 hv).1; rwa [vbs_len] at this
      rw [vbs_at hj] at hv
      rw [Addr.add_mid, hc j hj]; exact hv
    have c3 : Hid (0 + (vbs R).length ≤ (vbs Z32).length) := show 0 + (vbs R).length ≤ (vbs Z32).length by rw [vbs_len, vbs_len]; have := HR.out; simp [Z32]; omega
    have HB1' := Lib.hid hb1
    have HB0' := Lib.hid hb0
    have HG := Lib.hid hG
    have HI := Lib.hid hI
    clear hb1 hb0 hG hI HB0 HB1 HC
    go_upto_region 4 with (refine wpList_copy_splice (o := ⟨some 13, _, _, _, _, _⟩) rfl (.tmp 11) (.tmp 12) 22 22 rfl 5 Try.underlying22 (by kernel_rfl) (some ⟨w.heap.size + 1, 0, none⟩) A 32 32 32 32 rfl rfl (w.heap.size + 1) 0 (vbs Z32) 42 HB1'.out (vbs R) c1.out c2.out c3.out (vbs_one R) (w.heap.size + 1) W1 (Below.refl _ _) (Nat.le_refl _) ?_; intro w2 hB2 hb2)
    rw [HX.out] at hB2
    have hB2' : Blk w2 (w.heap.size + 1) 42 (vbs (hashL s)) := hB2
    have HRg := Lib.hid hB2'.range
    have hq0 : Blk w2 w.heap.size 42 (vbs Z32) := HB0'.out.below hb2 (by omega)
    have HTh : Hid (w2.there w.heap.size 0 32) := hq0.there
    have hlen : (vbs (hashL s)).length = 32 := by rw [vbs_len]; exact HL.out
    have HLn := Lib.hid hlen
    have HI42 := Lib.hid (i42 hlen)
    have HQ0 := Lib.hid hq0
    have HB2 := Lib.hid hb2
    clear hB2 hB2' hq0 hlen hb2 hsl c1 c2 c3 HB1' HB0'
    go_wp2_with (first | (with_reducible refine wpList_load_mid rfl 42 (.tmp 3) rfl (w.heap.size + 1) 0 rfl (vbs (hashL s)) _ HRg.out Try.underlying42 rfl HI42.out ?_) | (with_reducible refine wpList_store_mid rfl 42 (.tmp 2) (.tmp 14) rfl w.heap.size 0 (vbs (hashL s)).toArray rfl rfl (there_arr HTh.out HLn.out) (info_arr HI42.out) (all_oneCell_toArray (vbs_one _)) ?_))
    have hS := HQ0.out.setCells (vbs (hashL s)) (by rw [HLn.out]; rfl)
    have hlv := run_loadVar_mid (P := Try.prog) (w2.setCells w.heap.size 0 (vbs (hashL s))) w.heap.size 0 42 _ _ hS.range Try.underlying42 rfl HI42.out
    have hP : HashPost (hashL s) (cutS s 32) B p w (.returned (.agg (vbs (hashL s)).toArray)) (w2.setCells w.heap.size 0 (vbs (hashL s))) := by
      refine ⟨rfl, ?_, ?_⟩
      · exact (HI.out.below HB2.out (by have := HBB.out; omega)).keep fun b hb => heap_setCells _ _ _ _ (by have := HBB.out; omega)
      · refine ⟨?_, ?_, ?_, ?_, fun k hk hne => ?_⟩
        · rw [(setCells_same _ _ _ _).1, HB2.out.os, HG.out.os, HW.out.os]
        · rw [(setCells_same _ _ _ _).2.1, HB2.out.tape, HG.out.tape, HW.out.tape]
        · rw [(setCells_same _ _ _ _).2.2.1, HB2.out.output, HG.out.output, HW.out.output]
        · rw [(setCells_same _ _ _ _).2.2.2]; exact Nat.le_trans HW.out.size (Nat.le_trans HG.out.size HB2.out.size)
        · rw [heap_setCells _ _ _ _ (by omega), HB2.out.block k (by omega), HG.out.block k (Nat.lt_of_lt_of_le hk HW.out.size) hne, HW.out.block k hk]
    exact bodyPost_ret (v := .agg (vbs (hashL s)).toArray) (by simp [results, Try.results16, asAddr, Act.put, hlv]) rfl hP
  · have hs' : hasB s 32 = false := by simpa using hs
    have HS := Lib.hid hs'
    have hD := HD.out
    rw [if_neg hs] at hD
    have HD2 := Lib.hid hD
    have HT : Hid (cutS s 32 = none) := (cut_no hs').2
    clear hs hs' hD HD
    go_upto_region 3 with (go_at_call 30; (with_reducible refine HC.out.mono ?_); rintro e W1 hP; obtain ⟨hG, hN, hY⟩ := hP; obtain ⟨rfl, hI0⟩ := hN HS.out; clear hN hY; dsimp only)
    have hI : IsR W1 B p (cutS s 32) := by rw [HT.out]; exact hI0
    obtain ⟨R, hR⟩ : ∃ R : List (BitVec 8), R = [] := ⟨_, rfl⟩
    have hRl : R.length = 0 := by rw [hR]; rfl
    have HR : Hid (R.length ≤ 32) := show R.length ≤ 32 by omega
    have HRl0 := Lib.hid hRl
    have HRd := Lib.hid (show Rd W1 B none R from fun hp => by omega)
    have HX : Hid (splice (vbs Z32) 0 (vbs R) = vbs (hashL s)) := show splice (vbs Z32) 0 (vbs R) = vbs (hashL s) by
      rw [HD2.out, hR]; rfl
    clear hI0 hR hRl HD2 HT
    have hb1 : Blk W1 (w.heap.size + 1) 42 (vbs Z32) := HB1.out.grown hG (fun e => by have := HLt.out _ e.symm; omega)
    have hb0 : Blk W1 w.heap.size 42 (vbs Z32) := HB0.out.grown hG (fun e => by have := HLt.out _ e.symm; omega)
    have hsl := slice42 (w.heap.size + 1) W1
    have c1 : Hid ((vbs R).length = Nat.min 0 32) := show (vbs R).length = min 0 32 by rw [vbs_len]; have := HRl0.out; omega
    have c2 : Hid (0 < (vbs R).length → (some (⟨w.heap.size + 1, 0, none⟩ : Addr)) = some ⟨w.heap.size + 1, 0, none⟩ ∧ ∃ ad : Addr, none = some ad ∧ ∀ j v, (vbs R)[j]? = some v → W1.cell? (ad.add j) = some v) := fun hp => by
      rw [vbs_len] at hp
      obtain ⟨b, o, e, hlt, hc⟩ := HRd.out hp
      refine ⟨rfl, ⟨b, o, none⟩, e, fun j v hv => ?_⟩
      have hj : j < R.length := by have := (List.getElem?_eq_some_iff.1 hv).1; rwa [vbs_len] at this
      rw [vbs_at hj] at hv
      rw [Addr.add_mid, hc j hj]; exact hv
    have c3 : Hid (0 + (vbs R).length ≤ (vbs Z32).length) := show 0 + (vbs R).length ≤ (vbs Z32).length by rw [vbs_len, vbs_len]; have := HR.out; simp [Z32]; omega
    have HB1' := Lib.hid hb1
    have HB0' := Lib.hid hb0
    have HG := Lib.hid hG
    have HI := Lib.hid hI
    clear hb1 hb0 hG hI HB0 HB1 HC
    go_upto_region 4 with (refine wpList_copy_splice (o := ⟨some 13, _, _, _, _, _⟩) rfl (.tmp 11) (.tmp 12) 22 22 rfl 5 Try.underlying22 (by kernel_rfl) (some ⟨w.heap.size + 1, 0, none⟩) none 32 32 0 0 rfl rfl (w.heap.size + 1) 0 (vbs Z32) 42 HB1'.out (vbs R) c1.out c2.out c3.out (vbs_one R) (w.heap.size + 1) W1 (Below.refl _ _) (Nat.le_refl _) ?_; intro w2 hB2 hb2)
    rw [HX.out] at hB2
    have hB2' : Blk w2 (w.heap.size + 1) 42 (vbs (hashL s)) := hB2
    have HRg := Lib.hid hB2'.range
    have hq0 : Blk w2 w.heap.size 42 (vbs Z32) := HB0'.out.below hb2 (by omega)
    have HTh : Hid (w2.there w.heap.size 0 32) := hq0.there
    have hlen : (vbs (hashL s)).length = 32 := by rw [vbs_len]; exact HL.out
    have HLn := Lib.hid hlen
    have HI42 := Lib.hid (i42 hlen)
    have HQ0 := Lib.hid hq0
    have HB2 := Lib.hid hb2
    clear hB2 hB2' hq0 hlen hb2 hsl c1 c2 c3 HB1' HB0'
    go_wp2_with (first | (with_reducible refine wpList_load_mid rfl 42 (.tmp 3) rfl (w.heap.size + 1) 0 rfl (vbs (hashL s)) _ HRg.out Try.underlying42 rfl HI42.out ?_) | (with_reducible refine wpList_store_mid rfl 42 (.tmp 2) (.tmp 14) rfl w.heap.size 0 (vbs (hashL s)).toArray rfl rfl (there_arr HTh.out HLn.out) (info_arr HI42.out) (all_oneCell_toArray (vbs_one _)) ?_))
    have hS := HQ0.out.setCells (vbs (hashL s)) (by rw [HLn.out]; rfl)
    have hlv := run_loadVar_mid (P := Try.prog) (w2.setCells w.heap.size 0 (vbs (hashL s))) w.heap.size 0 42 _ _ hS.range Try.underlying42 rfl HI42.out
    have hP : HashPost (hashL s) (cutS s 32) B p w (.returned (.agg (vbs (hashL s)).toArray)) (w2.setCells w.heap.size 0 (vbs (hashL s))) := by
      refine ⟨rfl, ?_, ?_⟩
      · exact (HI.out.below HB2.out (by have := HBB.out; omega)).keep fun b hb => heap_setCells _ _ _ _ (by have := HBB.out; omega)
      · refine ⟨?_, ?_, ?_, ?_, fun k hk hne => ?_⟩
        · rw [(setCells_same _ _ _ _).1, HB2.out.os, HG.out.os, HW.out.os]
        · rw [(setCells_same _ _ _ _).2.1, HB2.out.tape, HG.out.tape, HW.out.tape]
        · rw [(setCells_same _ _ _ _).2.2.1, HB2.out.output, HG.out.output, HW.out.output]
        · rw [(setCells_same _ _ _ _).2.2.2]; exact Nat.le_trans HW.out.size (Nat.le_trans HG.out.size HB2.out.size)
        · rw [heap_setCells _ _ _ _ (by omega), HB2.out.block k (by omega), HG.out.block k (Nat.lt_of_lt_of_le hk HW.out.size) hne, HW.out.block k hk]
    exact bodyPost_ret (v := .agg (vbs (hashL s)).toArray) (by simp [results, Try.results16, asAddr, Act.put, hlv]) rfl hP
theorem Own5.below {w w' : World} {B : Nat} {A : Option Addr} {L : List (BitVec 8)} (h : Own5 w B A L) (hb : Below B w w') : Own5 w' B A L := h.heap fun b _ hl _ => hb.block b hl
theorem Own5.up {w : World} {B B' : Nat} {A : Option Addr} {L : List (BitVec 8)} (h : Own5 w B A L) (hB : B ≤ B') : Own5 w B' A L := fun hp => by
  obtain ⟨b, o, cur, e, hb, r⟩ := h hp
  exact ⟨b, o, cur, e, by omega, r⟩
theorem OB.own5 {w : World} {B : Nat} {v : Value} {L : List (BitVec 8)} (h : OB w B v L) : ∃ A cap, v = .slice A L.length cap ∧ Own5 w w.heap.size A L ∧ L.length ≤ cap ∧ cap ≤ 9223372036854775807 ∧ (A = none → cap = 0) := by
  have h' : w.ownsRow B 5 1 v L.length (vbs L) := h
  rcases h'.2 with ⟨rfl, h0⟩ | ⟨g, cap, cur, rfl, hb, hg, hn, hm, hcs, ht⟩
  · exact ⟨none, 0, by rw [h0], fun hp => by omega, by omega, by omega, fun _ => rfl⟩
  · refine ⟨_, cap, rfl, fun hp => ⟨g, 0, cur, rfl, (Array.getElem?_eq_some_iff.1 hg).1, hg, fun j hj => ?_⟩, hn, by unfold maxLen at hm; omega, fun h => by cases h⟩
    have h1 := h'.cells (g := g) rfl j (.int .u8 (Bt (L.getD j 0))) (vbs_at hj)
    rw [Addr.add_mid] at h1
    simpa [World.cell?, hg] using h1
theorem open_any (A : Option Addr) (L : List (BitVec 8)) (cap B : Nat) (w : World) (hR : Rd w B A L) (hB : B ≤ w.heap.size) (hc : A = none → cap = 0) (hl : L.length ≤ 100000000) :
    Calls Try.prog 11 #[.slice A L.length cap] w fun e w' => ∃ g, e = .returned (ptr (some g)) ∧ IsR w' (g + 1) (some g) (some L) ∧ w.heap.size ≤ g ∧ g < w'.heap.size ∧ Below w.heap.size w w' := by
  have HK := Lib.hid (clone_any A L cap B w hR hB hc (by omega))
  have HL := Lib.hid hl
  obtain ⟨n, hn⟩ : ∃ n, n = L.length := ⟨_, rfl⟩
  have HN := Lib.hid hn
  rw [← hn] at HK ⊢
  clear hR hc hl hn hB
  go_enter Try.func11, Try.ntmps11
  go_wp2_with (go_at_call 28; refine HK.out.mono ?_; rintro e w2 ⟨v, rfl, hO, hb⟩; obtain ⟨A', cap', rfl, hO5, h1, h2, h3⟩ := hO.own5; rw [← HN.out]; have H1 := Lib.hid h1; have H3 := Lib.hid h3; clear h1 h3; dsimp only)
  go_ret
  refine ⟨w2.heap.size, rfl, ⟨w2.heap.size, A', cap', rfl, by omega, ?_, (hO5.below ((Below.refl _ _).alloc (Nat.le_refl _) _)).up (by omega), H1.out, h2, H3.out⟩, hb.size, by simp, hb.alloc hb.size _⟩
  rw [← HN.out]
  exact Blk.new _ _ _
end Go.Proofs.Ytnnceicjooahmaa
