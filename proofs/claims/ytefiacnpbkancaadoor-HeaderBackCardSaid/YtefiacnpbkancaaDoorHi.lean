/- What the document's own Get returns. -/
import Derived.Test.YtefiacnpbkancaaDoorHg
namespace Go.Proofs.YtefiacnpbkancaaDoor
open Go.RowKit
set_option linter.unusedVariables false
set_option linter.unusedSimpArgs false
set_option maxRecDepth 100000
/-- The first j bytes of X, then noughts. -/
def fil32 (X : List (BitVec 8)) (j : Nat) : List (BitVec 8) := X.take j ++ List.replicate (32 - j) 0
theorem fil32_len {X : List (BitVec 8)} {j : Nat} (h : X.length = 32) (hj : j ≤ 32) : (fil32 X j).length = 32 := by simp [fil32, h]; omega
theorem fil32_set {X : List (BitVec 8)} {j : Nat} (h : X.length = 32) (hj : j < 32) : (fil32 X j).set j (X.getD j 0) = fil32 X (j + 1) := by
  unfold fil32
  have e1 : X.take (j + 1) = X.take j ++ [X.getD j 0] := by rw [List.take_succ_eq_append_getElem (by omega)]; simp [List.getD, h, hj]
  have e2 : List.replicate (32 - j) (0 : BitVec 8) = 0 :: List.replicate (32 - (j + 1)) 0 := by rw [show 32 - j = (32 - (j + 1)) + 1 by omega, List.replicate_succ]
  have e3 : (X.take j).length = j := by rw [List.length_take]; omega
  rw [e1, e2, List.set_append_right _ _ (by omega), e3, Nat.sub_self, List.set_cons_zero, List.append_assoc]
  rfl
theorem hdV_set0 (h : THd) (z : Nat) : (hdV h).set 0 (.int .u32 (z : Int)) = hdV { h with ver := z } := rfl
theorem hdV_setP {h : THd} (k : HdOk h) {j : Nat} (hj : j < 32) (x : BitVec 8) : (hdV h).set (1 + j) (.int .u8 (Bt x)) = hdV { h with prev := h.prev.set j x } := by
  have := k.prev
  unfold hdV
  rw [Nat.add_comm 1 j, List.set_cons_succ, List.set_append_left _ _ (by rw [vbs_len]; omega), vbs_set]
theorem hdV_setR {h : THd} (k : HdOk h) {j : Nat} (hj : j < 32) (x : BitVec 8) : (hdV h).set (33 + j) (.int .u8 (Bt x)) = hdV { h with root := h.root.set j x } := by
  have := k.prev
  have := k.root
  unfold hdV
  rw [show 33 + j = (32 + j) + 1 by omega, List.set_cons_succ, List.set_append_right _ _ (by rw [vbs_len]; omega), vbs_len, k.prev, Nat.add_sub_cancel_left, List.set_append_left _ _ (by rw [vbs_len]; omega), vbs_set]
theorem hdV_setE {h : THd} (k : HdOk h) {j : Nat} (hj : j < 3) (v : Value) : (hdV h).set (65 + j) v = .int .u32 (h.ver : Int) :: (vbs h.prev ++ (vbs h.root ++ ([.int .u32 (h.time : Int), .int .u32 (h.bits : Int), .int .u32 (h.nonce : Int)] : List Value).set j v)) := by
  have := k.prev
  have := k.root
  unfold hdV
  rw [show 65 + j = (64 + j) + 1 by omega, List.set_cons_succ, List.set_append_right _ _ (by rw [vbs_len]; omega), vbs_len, k.prev, List.set_append_right _ _ (by rw [vbs_len]; omega), vbs_len, k.root, show 64 + j - 32 - 32 = j by omega]
/-- The two boxes of the call. -/
structure GQ (w : World) (h : THd) (wq : World) : Prop where
  bel : Below w.heap.size w wq
  r : Blk wq w.heap.size 26 (hdV hd0)
  h : Blk wq (w.heap.size + 1) 26 (hdV h)
theorem GQ.set {w wq : World} {h h' : THd} {j : Nat} {v : Value} (H : GQ w h wq) (e : (hdV h).set j v = hdV h') : GQ w h' (wq.setCell ⟨w.heap.size + 1, j, none⟩ v) := by
  refine ⟨H.bel.setCell (by simp) v, H.r.other (by simp) v, ?_⟩
  rw [← e]
  exact H.h.set j v
theorem GQ.new (w : World) : GQ w hd0 ((w.alloc (.cells (hdV hd0).toArray 26)).alloc (.cells (hdV hd0).toArray 26)) := by
  have es : (w.alloc (.cells (hdV hd0).toArray 26)).heap.size = w.heap.size + 1 := by simp
  have h1 := Blk.new (w.alloc (.cells (hdV hd0).toArray 26)) 26 (hdV hd0).toArray
  rw [es, List.toList_toArray] at h1
  have h0 := (Blk.new w 26 (hdV hd0).toArray).alloc (.cells (hdV hd0).toArray 26)
  rw [List.toList_toArray] at h0
  exact ⟨((Below.refl _ _).alloc (Nat.le_refl _) _).alloc (by simp) _, h0, h1⟩
def RGetPost (L : List (BitVec 8)) (w : World) (e : Ending) (w' : World) : Prop := e = .returned (.tuple #[.agg (hdV (hgetH L)).toArray, .int .i64 (hgetE L)]) ∧ Below w.heap.size w w'
set_option maxHeartbeats 4000000 in
theorem rget_no (A : Option Addr) (L : List (BitVec 8)) (cap : Nat) (w : World) (hl : L.length ≤ 100000000) (hL : L.length ≠ 80) :
    Calls Tryd.prog 15 #[.slice A L.length cap] w (HGetPost L w) := by
  have hz := zero26
  obtain ⟨n, hn⟩ : ∃ n, n = L.length := ⟨_, rfl⟩
  have HQ := Lib.hid (GQ.new w)
  have HI := Lib.hid (info26 hd0_ok)
  have es' : Hid ((w.alloc (.cells (hdV hd0).toArray 26)).heap.size = w.heap.size + 1) := show (w.alloc (.cells (hdV hd0).toArray 26)).heap.size = w.heap.size + 1 by simp
  rw [← hn] at hL hl ⊢
  have hne : ((n : Int) != 80) = true := by simp; omega
  have hp : HGetPost L w = fun e w' => e = .returned (.tuple #[.agg (hdV hd0).toArray, .int .i64 4]) ∧ Below w.heap.size w w' := by
    unfold HGetPost hgetH hgetE
    rw [if_neg (by omega), if_neg (by omega)]
  rw [hp]
  clear hn hp hL
  go_enter Tryd.func15, Tryd.ntmps15
  go_upto_region 2 with fail
  generalize (w.alloc (.cells (hdV hd0).toArray 26)).alloc (.cells (hdV hd0).toArray 26) = W1 at HQ ⊢
  clear hz
  go_wp2_with (first
    | (with_reducible refine wpList_load_mid rfl 26 (.tmp 4) rfl (w.heap.size + 1) 0 rfl (hdV hd0) _ HQ.out.h.range Tryd.underlying26 rfl HI.out ?_)
    | (with_reducible refine wpList_store_mid rfl 26 (.tmp 2) (.tmp 9) rfl w.heap.size 0 (hdV hd0).toArray rfl rfl (there_hd HQ.out.r hd0_ok hd0_ok) (info26v hd0_ok) (all_oneCell_toArray (hdV_one _)) ?_))
  have hS := HQ.out.r.setCells (hdV hd0) rfl
  have hbb := below_setCells (B := w.heap.size) (b := w.heap.size) (Nat.le_refl _) (hdV hd0) 0 _ HQ.out.bel
  generalize W1.setCells w.heap.size 0 (hdV hd0) = W9 at hS hbb
  have hlv := run_loadVar_mid (P := Tryd.prog) W9 w.heap.size 0 26 _ _ hS.range Tryd.underlying26 rfl HI.out
  exact bodyPost_ret (v := .tuple #[.agg (hdV hd0).toArray, .int .i64 4]) (by simp [results, Tryd.results15, asAddr, hlv]) rfl ⟨rfl, hbb⟩
/-- The header behind j rounds. -/
def hdJ (L : List (BitVec 8)) (j : Nat) : THd := ⟨lev (L.take 4), fil32 ((L.drop 4).take 32) j, fil32 ((L.drop 36).take 32) j, 0, 0, 0⟩
theorem hdJ_ok {L : List (BitVec 8)} (h : L.length = 80) {j : Nat} (hj : j ≤ 32) : HdOk (hdJ L j) :=
  ⟨fil32_len (by simp [h]) hj, fil32_len (by simp [h]) hj, lev4 _, Nat.zero_lt_succ _, Nat.zero_lt_succ _, Nat.zero_lt_succ _⟩
theorem hdJ_zero (L : List (BitVec 8)) : ({ hd0 with ver := lev (L.take 4) } : THd) = hdJ L 0 := by simp [hdJ, hd0, fil32, Z32]
theorem getD_drop_take (L : List (BitVec 8)) (a j : Nat) (hj : j < 32) : ((L.drop a).take 32).getD j 0 = L.getD (a + j) 0 := by
  simp [List.getD, List.getElem?_take, hj, List.getElem?_drop]
theorem hdJ_step {L : List (BitVec 8)} (h : L.length = 80) {j : Nat} (hj : j < 32) {w wq : World} (H : GQ w (hdJ L j) wq) :
    GQ w (hdJ L (j + 1)) ((wq.setCell ⟨w.heap.size + 1, 1 + j, none⟩ (.int .u8 (Bt (L.getD (4 + j) 0)))).setCell ⟨w.heap.size + 1, 33 + j, none⟩ (.int .u8 (Bt (L.getD (36 + j) 0)))) := by
  have k := hdJ_ok h (Nat.le_of_lt hj)
  have l1 : ((L.drop 4).take 32).length = 32 := by simp [h]
  have l2 : ((L.drop 36).take 32).length = 32 := by simp [h]
  have h1 := H.set (hdV_setP k hj (L.getD (4 + j) 0))
  have k1 : HdOk { hdJ L j with prev := (hdJ L j).prev.set j (L.getD (4 + j) 0) } := ⟨by simp [k.prev], k.root, k.ver, k.time, k.bits, k.nonce⟩
  have h2 := h1.set (hdV_setR k1 hj (L.getD (36 + j) 0))
  have e : ({ hdJ L j with prev := (hdJ L j).prev.set j (L.getD (4 + j) 0), root := (hdJ L j).root.set j (L.getD (36 + j) 0) } : THd) = hdJ L (j + 1) := by
    unfold hdJ
    dsimp only
    rw [← getD_drop_take L 4 j hj, ← getD_drop_take L 36 j hj, fil32_set l1 hj, fil32_set l2 hj]
  rw [← e]
  exact h2
set_option maxHeartbeats 8000000 in
theorem rget_yes (A : Option Addr) (L : List (BitVec 8)) (cap B : Nat) (w : World) (hR : Rd w B A L) (hB : B ≤ w.heap.size) (hc : 80 ≤ cap) (hm : cap ≤ 9223372036854775807) (hL : L.length = 80) :
    Calls Tryd.prog 15 #[.slice A 80 cap] w (HGetPost L w) := by
  have hz := zero26
  obtain ⟨b, o, rfl, hlt, hcell⟩ := hR (by omega)
  have HQ := Lib.hid (GQ.new w)
  have HI := Lib.hid (info26 hd0_ok)
  have HL := Lib.hid hL
  have HC : Hid (∀ wq, Below w.heap.size w wq → ∀ j, j < 80 → wq.cell? ⟨b, o + j, none⟩ = some (.int .u8 (Bt (L.getD j 0)))) := fun wq hq j hj => by
    rw [hq.cell (p := ⟨b, o + j, none⟩) (by show b < _; omega)]; exact hcell j (by omega)
  have HV : Hid (∀ wq, Below w.heap.size w wq → ∀ k n cp, k + n = 80 → 4 ≤ n → n ≤ cp → cp ≤ 9223372036854775807 → Calls Tryd.prog 26 #[.slice (some ⟨b, o + k, none⟩) n cp] wq fun e w' => e = .returned (.int .u32 (lev ((L.drop k).take 4) : Int)) ∧ wq = w') := fun wq hq k n cp h1 h2 h3 h4 =>
    value_w (some ⟨b, o + k, none⟩) (L.drop k) n cp w.heap.size wq (fun _ => ⟨b, o + k, rfl, by omega, fun j hj => by
      rw [hq.cell (p := ⟨b, o + k + j, none⟩) (by show b < _; omega), Nat.add_assoc, hcell (k + j) (by rw [List.length_drop] at hj; omega)]
      simp [List.getD, List.getElem?_drop]⟩) (by rw [List.length_drop]; omega) h2 h3 h4
  have hne : ((80 : Int) != 80) = false := by decide
  have hp : HGetPost L w = fun e w' => e = .returned (.tuple #[.agg (hdV (hdOf L)).toArray, .int .i64 0]) ∧ Below w.heap.size w w' := by
    unfold HGetPost hgetH hgetE
    rw [if_pos hL, if_pos hL]
  have es' : Hid ((w.alloc (.cells (hdV hd0).toArray 26)).heap.size = w.heap.size + 1) := show (w.alloc (.cells (hdV hd0).toArray 26)).heap.size = w.heap.size + 1 by simp
  have hv0 := HV.out _ HQ.out.bel 0 80 cap rfl (by omega) hc hm
  rw [Nat.add_zero, List.drop_zero] at hv0
  have HV0 := Lib.hid hv0
  rw [hp]
  clear hp hL hR hB hcell hv0
  go_enter Tryd.func15, Tryd.ntmps15
  go_upto_region 4 with fail
  generalize (w.alloc (.cells (hdV hd0).toArray 26)).alloc (.cells (hdV hd0).toArray 26) = W1 at HQ HV0 ⊢
  clear hz hne
  have c0 := HQ.out.h.cell (j := 0) rfl
  have f0 := HQ.out.h.free 0
  go_upto_region 5 with (go_at_call 26; (with_reducible refine HV0.out.mono ?_); rintro e w' ⟨rfl, rfl⟩; dsimp only)
  have hq0 : GQ w (hdJ L 0) (W1.setCell ⟨w.heap.size + 1, 0, none⟩ (.int .u32 (lev (L.take 4) : Int))) := by
    have := HQ.out.set (hdV_set0 hd0 (lev (L.take 4)))
    rw [hdJ_zero] at this
    exact this
  generalize W1.setCell ⟨w.heap.size + 1, 0, none⟩ (.int .u32 (lev (L.take 4) : Int)) = W2 at hq0 ⊢
  have HQ0 := Lib.hid hq0
  clear hq0 HQ c0 f0 HV0
  generalize lev (L.take 4) = z0
  go_wp2_with fail
  go_loopw [5] (fun i wq => ∃ j : Nat, j ≤ 32 ∧ i = .int .i64 j ∧ GQ w (hdJ L j) wq) (fun i _ => 32 - (intOf i).toNat)
  case atStart => exact ⟨0, Nat.zero_le _, rfl, HQ0.out⟩
  case round =>
    obtain ⟨j, hj, rfl, hq⟩ := hrel
    clear HQ0
    by_cases hlt : j < 32
    · have j1 : (j : Int) < 32 := by omega
      have j0 : (0 : Int) ≤ (j : Int) := by omega
      have k4 : IntKind.i64.wrap (4 + (j : Int)) = ((4 + j : Nat) : Int) := by rw [IntWalk.i64_in _ (by omega)]; omega
      have k36 : IntKind.i64.wrap (36 + (j : Int)) = ((36 + j : Nat) : Int) := by rw [IntWalk.i64_in _ (by omega)]; omega
      have d0 := HC.out wr hq.bel (4 + j) (by omega)
      have b1 : Below w.heap.size w (wr.setCell ⟨w.heap.size + 1, 1 + j, none⟩ (.int .u8 (Bt (L.getD (4 + j) 0)))) := hq.bel.setCell (by simp) _
      have d1 := HC.out _ b1 (36 + j) (by omega)
      clear b1
      have c0 := hq.h.cell (hdV_prev (hdJ_ok HL.out hj) hlt)
      have f0 := hq.h.free (1 + j)
      have hq1 := (hq.h.set (1 + j) (.int .u8 (Bt (L.getD (4 + j) 0))))
      have c1 := hq1.cell (j := 33 + j) (v := .int .u8 (Bt ((hdJ L j).root.getD j 0))) (by rw [List.getElem?_set_ne (by omega)]; exact hdV_root (hdJ_ok HL.out hj) hlt)
      have f1 := hq1.free (33 + j)
      have hst := hdJ_step HL.out hlt hq
      obtain ⟨x, hx⟩ : ∃ x, x = L.getD (4 + j) 0 := ⟨_, rfl⟩
      obtain ⟨y, hy⟩ : ∃ y, y = L.getD (36 + j) 0 := ⟨_, rfl⟩
      rw [← hx] at d0 d1 c1 f1 hst
      rw [← hy] at d1 hst
      have Hst := Lib.hid hst
      clear hx hy hst hq1 hq
      go_wp2_with fail
      go_roundw
      case rel => exact ⟨j + 1, by omega, by simp, Hst.out⟩
      case measure => simp [intOf]; omega
    · obtain rfl : j = 32 := by omega
      have c65 := hq.h.cell (hdV_end (hdJ_ok HL.out hj) (j := 0) rfl)
      have f65 := hq.h.free 65
      have KA := Lib.hid (fun wq hq' => HV.out wq hq' 68 12 (cap - 68) rfl (by omega) (by omega) (by omega))
      have KB := Lib.hid (fun wq hq' => HV.out wq hq' 72 8 (cap - 72) rfl (by omega) (by omega) (by omega))
      have KC := Lib.hid (fun wq hq' => HV.out wq hq' 76 4 (cap - 76) rfl (by omega) (by omega) (by omega))
      have h80 : (80 : Int) ≤ (cap : Int) := by omega
      obtain ⟨z2, hz2⟩ : ∃ z, z = lev ((L.drop 68).take 4) := ⟨_, rfl⟩
      obtain ⟨z3, hz3⟩ : ∃ z, z = lev ((L.drop 72).take 4) := ⟨_, rfl⟩
      obtain ⟨z4, hz4⟩ : ∃ z, z = lev ((L.drop 76).take 4) := ⟨_, rfl⟩
      have hz0 : hdJ L 32 = ⟨lev (L.take 4), (L.drop 4).take 32, (L.drop 36).take 32, 0, 0, 0⟩ := by
        have l1 : ((L.drop 4).take 32).take 32 = (L.drop 4).take 32 := List.take_of_length_le (by simp; omega)
        have l2 : ((L.drop 36).take 32).take 32 = (L.drop 36).take 32 := List.take_of_length_le (by simp; omega)
        simp [hdJ, fil32, l1, l2]
      rw [← hz2] at KA
      rw [← hz3] at KB
      rw [← hz4] at KC
      have k2 : z2 < 4294967296 := by rw [hz2]; exact lev4 _
      have k3 : z3 < 4294967296 := by rw [hz3]; exact lev4 _
      have k4 : z4 < 4294967296 := by rw [hz4]; exact lev4 _
      have kJ := hdJ_ok HL.out hj
      rw [hz0] at hq kJ
      have HE : Hid (hdOf L = ⟨lev (L.take 4), (L.drop 4).take 32, (L.drop 36).take 32, z2, z3, z4⟩) := show hdOf L = ⟨lev (L.take 4), (L.drop 4).take 32, (L.drop 36).take 32, z2, z3, z4⟩ by rw [hz2, hz3, hz4]; rfl
      clear hz0 hz2 hz3 hz4
      generalize hP1 : (L.drop 4).take 32 = P1 at hq kJ HE
      generalize hP2 : (L.drop 36).take 32 = P2 at hq kJ HE
      generalize hZ1 : lev (L.take 4) = z1 at hq kJ HE
      have kA : HdOk ⟨z1, P1, P2, z2, 0, 0⟩ := ⟨kJ.prev, kJ.root, kJ.ver, k2, kJ.bits, kJ.nonce⟩
      have kB : HdOk ⟨z1, P1, P2, z2, z3, 0⟩ := ⟨kJ.prev, kJ.root, kJ.ver, k2, k3, kJ.nonce⟩
      have kC : HdOk ⟨z1, P1, P2, z2, z3, z4⟩ := ⟨kJ.prev, kJ.root, kJ.ver, k2, k3, k4⟩
      have qA := hq.set (h' := ⟨z1, P1, P2, z2, 0, 0⟩) (j := 65 + 0) (hdV_setE kJ (j := 0) (by omega) (.int .u32 (z2 : Int)))
      have cA := hq.h.cell (j := 65) (hdV_end kJ (j := 0) rfl)
      have fA := hq.h.free 65
      have KA' := Lib.hid (KA.out wr hq.bel)
      have HKC := Lib.hid kC
      have HKB := Lib.hid kB
      have HKA := Lib.hid kA
      have HQA := Lib.hid qA
      clear hq hP1 hP2 hZ1 k2 k3 k4 kJ kA kB kC qA KA c65 f65
      go_upto_region 11 with (go_at_call 26; (with_reducible refine KA'.out.mono ?_); rintro e w' ⟨rfl, rfl⟩; dsimp only)
      have hq := HQA.out
      generalize wr.setCell ⟨w.heap.size + 1, 65, none⟩ (.int .u32 (z2 : Int)) = W3 at hq ⊢
      have qB := hq.set (h' := ⟨z1, P1, P2, z2, z3, 0⟩) (j := 65 + 1) (hdV_setE HKA.out (j := 1) (by omega) (.int .u32 (z3 : Int)))
      have cB := hq.h.cell (j := 66) (hdV_end HKA.out (j := 1) rfl)
      have fB := hq.h.free 66
      have KB' := Lib.hid (KB.out W3 hq.bel)
      have HQB := Lib.hid qB
      clear hq qB HQA KB cA fA KA'
      go_upto_region 12 with (go_at_call 26; (with_reducible refine KB'.out.mono ?_); rintro e w' ⟨rfl, rfl⟩; dsimp only)
      have hq := HQB.out
      generalize W3.setCell ⟨w.heap.size + 1, 66, none⟩ (.int .u32 (z3 : Int)) = W4 at hq ⊢
      have qC := hq.set (h' := ⟨z1, P1, P2, z2, z3, z4⟩) (j := 65 + 2) (hdV_setE HKB.out (j := 2) (by omega) (.int .u32 (z4 : Int)))
      have cC := hq.h.cell (j := 67) (hdV_end HKB.out (j := 2) rfl)
      have fC := hq.h.free 67
      have KC' := Lib.hid (KC.out W4 hq.bel)
      have HQC := Lib.hid qC
      clear hq qC HQB KC cB fB KB'
      go_upto_region 13 with (go_at_call 26; (with_reducible refine KC'.out.mono ?_); rintro e w' ⟨rfl, rfl⟩; dsimp only)
      generalize W4.setCell ⟨w.heap.size + 1, 67, none⟩ (.int .u32 (z4 : Int)) = W5 at HQC ⊢
      clear cC fC KC'
      go_wp2_with (first
        | (with_reducible refine wpList_load_mid rfl 26 (.tmp 4) rfl (w.heap.size + 1) 0 rfl (hdV ⟨z1, P1, P2, z2, z3, z4⟩) _ HQC.out.h.range Tryd.underlying26 rfl (info26 HKC.out) ?_)
        | (with_reducible refine wpList_store_mid rfl 26 (.tmp 2) (.tmp 45) rfl w.heap.size 0 (hdV ⟨z1, P1, P2, z2, z3, z4⟩).toArray rfl rfl (there_hd HQC.out.r hd0_ok HKC.out) (info26v HKC.out) (all_oneCell_toArray (hdV_one _)) ?_))
      have hS := HQC.out.r.setCells (hdV ⟨z1, P1, P2, z2, z3, z4⟩) (by rw [hdV_len HKC.out, hdV_len hd0_ok])
      have hbb := below_setCells (B := w.heap.size) (b := w.heap.size) (Nat.le_refl _) (hdV ⟨z1, P1, P2, z2, z3, z4⟩) 0 _ HQC.out.bel
      generalize W5.setCells w.heap.size 0 (hdV ⟨z1, P1, P2, z2, z3, z4⟩) = W9 at hS hbb
      have hlv := run_loadVar_mid (P := Tryd.prog) W9 w.heap.size 0 26 _ _ hS.range Tryd.underlying26 rfl (info26 HKC.out)
      exact bodyPost_ret (v := .tuple #[.agg (hdV ⟨z1, P1, P2, z2, z3, z4⟩).toArray, .int .i64 0]) (by simp [results, Tryd.results15, asAddr, hlv]) rfl ⟨by rw [HE.out], hbb⟩
theorem rget_any (A : Option Addr) (L : List (BitVec 8)) (n cap B : Nat) (w : World) (hn : L.length = n) (hR : Rd w B A L) (hB : B ≤ w.heap.size) (hc : n ≤ cap) (hm : cap ≤ 9223372036854775807) (hl : L.length ≤ 100000000) :
    Calls Tryd.prog 15 #[.slice A n cap] w (HGetPost L w) := by
  subst hn
  by_cases h : L.length = 80
  · have := rget_yes A L cap B w hR hB (by omega) hm h
    rw [h]
    exact this
  · exact rget_no A L cap w hl h
end Go.Proofs.YtefiacnpbkancaaDoor
