/- What the document's own take returns: the words behind a block. -/
import Derived.Test.YtffngfjbaimbhaaDoorTd
import Derived.Test.YtffngfjbaimbhaaDoorSd
import Derived.Test.YtffngfjbaimbhaaDoorKc
import Derived.StillTailTactics
import Derived.Outline
namespace Go.Proofs.YtffngfjbaimbhaaDoor
open Go.RowKit
set_option linter.unusedVariables false
set_option linter.unusedSimpArgs false
set_option maxRecDepth 100000
/-- The worlds that are w but for the draws. -/
def Al (w w2 : World) : Prop := ∃ k, w2 = w.drewN k
theorem Al.refl (w : World) : Al w w := ⟨0, rfl⟩
theorem Al.step {w w2 : World} (h : Al w w2) (n : Nat) : Al w (w2.drewN n) := by
  obtain ⟨k, rfl⟩ := h
  exact ⟨k + n, World.drewN_drewN _ _ _⟩
theorem OV.cells {w : World} {B : Nat} {v : Value} {L : List (BitVec 64)} (h : OV w B v L) (hp : 0 < L.length) : ∃ g cap, v = .slice (some ⟨g, 0, none⟩) L.length cap ∧ L.length ≤ cap ∧ ∀ k, k < L.length → w.cell? ⟨g, k, none⟩ = some (.int .u64 (V (L.getD k 0))) := by
  rcases h.2 with ⟨_, h0⟩ | ⟨g, cap, cur, hv, hb, hg, hn, hm, hcs, ht⟩
  · omega
  · refine ⟨g, cap, hv, hn, fun k hk => ?_⟩
    have h1 := (show w.ownsRow B 37 1 v L.length (vws L) from h).cells (g := g) (by rw [hv]; rfl) k (.int .u64 (V (L.getD k 0))) (vws_at hk)
    rwa [Addr.add_mid, Nat.zero_add] at h1
theorem nxt_lo (C : List (BitVec 8)) (t : Nat) (h : t < 16) : nxt C (sch C t) = wd ((C.drop (8 * t)).take 8) := by
  unfold nxt; rw [sch_len, if_pos h]
theorem nxt_hi (C : List (BitVec 8)) (t : Nat) (h : 16 ≤ t) : nxt C (sch C t) = lo1 ((sch C t).getD (t - 2) 0) + (sch C t).getD (t - 7) 0 + lo0 ((sch C t).getD (t - 15) 0) + (sch C t).getD (t - 16) 0 := by
  unfold nxt; rw [sch_len, if_neg (by omega)]
/-- Nothing that lay there in W0 has changed. -/
def SB (W0 w : World) : Prop := Below W0.heap.size W0 w
theorem SB.cell {W0 w : World} {b k : Nat} {v : Value} (h : SB W0 w) (hc : W0.cell? ⟨b, k, none⟩ = some v) : w.cell? ⟨b, k, none⟩ = some v := by
  rw [Below.cell h (p := ⟨b, k, none⟩) (World.block_lt_of_cell? W0 _ hc)]; exact hc
theorem ov_new (w : World) (X : List (BitVec 64)) (B : Nat) (hB : B ≤ w.heap.size) (hX : X.length ≤ maxLen) : OV (w.alloc (.cells (vws X).toArray 37)) B (.slice (some ⟨w.heap.size, 0, none⟩) X.length X.length) X := by
  refine ⟨by rw [vws_len]; omega, .inr ⟨w.heap.size, X.length, _, rfl, hB, Blk.new w 37 (vws X).toArray, Nat.le_refl _, hX, ?_, ?_⟩⟩
  · simp [vws_len]
  · show List.take _ (vws X) = vws X
    exact List.take_of_length_le (by rw [vws_len]; omega)
/-- What a round reads. -/
structure TC (gv gk ok gw k : Nat) (T : St) (kk x : BitVec 64) (wq : World) : Prop where
  c0 : wq.cell? ⟨gv, 0, none⟩ = some (.int .u64 (V T.a))
  c1 : wq.cell? ⟨gv, 1, none⟩ = some (.int .u64 (V T.b))
  c2 : wq.cell? ⟨gv, 2, none⟩ = some (.int .u64 (V T.c))
  c3 : wq.cell? ⟨gv, 3, none⟩ = some (.int .u64 (V T.d))
  c4 : wq.cell? ⟨gv, 4, none⟩ = some (.int .u64 (V T.e))
  c5 : wq.cell? ⟨gv, 5, none⟩ = some (.int .u64 (V T.f))
  c6 : wq.cell? ⟨gv, 6, none⟩ = some (.int .u64 (V T.g))
  c7 : wq.cell? ⟨gv, 7, none⟩ = some (.int .u64 (V T.h))
  ck : wq.cell? ⟨gk, ok + k, none⟩ = some (.int .u64 (V kk))
  cw : wq.cell? ⟨gw, k, none⟩ = some (.int .u64 (V x))
theorem TC.al {gv gk ok gw k : Nat} {T : St} {kk x : BitVec 64} {w w2 : World} (h : TC gv gk ok gw k T kk x w) (ha : Al w w2) : TC gv gk ok gw k T kk x w2 := by
  obtain ⟨n, rfl⟩ := ha
  exact ⟨h.c0, h.c1, h.c2, h.c3, h.c4, h.c5, h.c6, h.c7, h.ck, h.cw⟩
theorem Al.below {w w2 : World} {w0 : World} {B : Nat} (ha : Al w w2) (h : Below B w0 w) : Below B w0 w2 := by
  obtain ⟨n, rfl⟩ := ha
  exact ⟨h.os, h.tape, h.output, h.size, h.block⟩
theorem Al.drew {w w2 : World} (h : Al w w2) : Al w w2.drew := h.step 1
theorem OV.base {w : World} {B B' : Nat} {v : Value} {L : List (BitVec 64)} (h : OV w B v L) (hB : B' ≤ B) : OV w B' v L := by
  refine ⟨h.1, ?_⟩
  rcases h.2 with hn | ⟨g, cap, cur, rfl, hbb, r⟩
  · exact .inl hn
  · exact .inr ⟨g, cap, cur, rfl, by omega, r⟩
theorem stl_add (s T : St) (j : Nat) (hj : j < 8) : (stl (addS s T)).getD j 0 = (stl s).getD j 0 + (stl T).getD j 0 := by
  have : j = 0 ∨ j = 1 ∨ j = 2 ∨ j = 3 ∨ j = 4 ∨ j = 5 ∨ j = 6 ∨ j = 7 := by omega
  rcases this with rfl | rfl | rfl | rfl | rfl | rfl | rfl | rfl <;> rfl
theorem take_next {L : List (BitVec 64)} {j : Nat} (h : j < L.length) : L.take (j + 1) = L.take j ++ [L.getD j 0] := by
  rw [List.take_succ_eq_append_getElem h]; simp [List.getD, h]
set_option maxHeartbeats 16000000 in
theorem take_any (s : St) (Ah Ak : Option Addr) (ch ck g o cb : Nat) (C : List (BitVec 8)) (w : World) (hC : C.length = 128) (hh : RdV w w.heap.size Ah (stl s)) (hk : RdV w w.heap.size Ak KK) (hb : Rd w w.heap.size (some ⟨g, o, none⟩) C) (hch : 8 ≤ ch) (hck : 80 ≤ ck) (hcb : 128 ≤ cb) :
    Calls Tryd.prog 26 #[.slice Ah 8 ch, .slice Ak 80 ck, .slice (some ⟨g, o, none⟩) 128 cb] w fun e w' => ∃ v, e = .returned v ∧ OV w' w.heap.size v (stl (proc s C)) ∧ Below w.heap.size w w' := by
  have HC := Lib.hid hC
  have Hh := Lib.hid hh
  have Hk := Lib.hid hk
  have Hb := Lib.hid hb
  clear hC hh hk hb
  go_enter Tryd.func26, Tryd.ntmps26
  go_wp2_with fail
  go_loopw [7, 8] (fun v i wr => ∃ t : Nat, t ≤ 16 ∧ i = .int .i64 t ∧ OV wr w.heap.size v (sch C t) ∧ Below w.heap.size w wr) (fun _ i _ => 16 - (intOf i).toNat)
  case atStart => exact ⟨0, Nat.zero_le _, rfl, OV.nil _ _, Below.refl _ _⟩
  case round =>
    obtain ⟨t, ht, rfl, ho, hbe⟩ := hrel
    have HO := Lib.hid ho
    have HB := Lib.hid hbe
    by_cases hlt : t < 16
    · obtain ⟨b', o', e', hbl, hcl⟩ := Hb.out (by rw [HC.out]; omega)
      cases e'
      have hC8 : ((C.drop (8 * t)).take 8).length = 8 := by rw [List.length_take, List.length_drop, HC.out]; omega
      have K34 := Lib.hid (rword_any ((C.drop (8 * t)).take 8) g (o + 8 * t) 8 (cb - 8 * t) wr hC8 (Nat.le_refl _) (by omega) (fun j hj => by
        have h1 := hcl (8 * t + j) (by rw [HC.out]; omega)
        rw [Nat.add_assoc, hbe.cell (p := ⟨g, o + (8 * t + j), none⟩) hbl, h1]
        congr 3
        simp [List.getD, List.getElem?_take, hj, List.getElem?_drop]))
      rw [← nxt_lo C t hlt] at K34
      obtain ⟨x, hx⟩ : ∃ x, x = nxt C (sch C t) := ⟨_, rfl⟩
      rw [← hx] at K34
      have HX := Lib.hid hx
      have HOo := Lib.hid (ho.alloc (.cells #[.int .u64 (V x)] 37))
      have hs := Lib.hid (src33_one wr x)
      have HBo := Lib.hid (hbe.alloc hbe.size (.cells #[.int .u64 (V x)] 37))
      have t0 : (0 : Int) ≤ (t : Int) := by omega
      have t1 : (t : Int) < 16 := by omega
      have s1 : (8 * (t : Int)).toNat = 8 * t := by omega
      have s2 : (8 * (t : Int) + 8).toNat - 8 * t = 8 := by omega
      have s3 : ¬ cb = 8 * t := by omega
      have s4 : (8 * (t : Int) + 8).toNat ≤ cb := by omega
      clear ho hbe hx hcl hbl hC8
      go_upto_region 4 with (first
        | (go_at_call 34; (with_reducible refine K34.out.mono ?_); rintro e w' ⟨rfl, rfl⟩; dsimp only)
        | ((with_reducible show wpList _ _ _ ((⟨some 38, _, _, _, _, _⟩ : Oper) :: _) _ _); refine wpList_push33 (o := ⟨some 38, _, _, _, _, _⟩) rfl (.tmp 28) (.tmp 37) rfl rfl w.heap.size _ _ [x] rfl HOo.out (some ⟨wr.heap.size, 0, none⟩) 1 1 rfl (one_len33 _) hs.out (fun h => by cases h) (by rw [sch_len]; simp; omega) HBo.out HBo.out.size (Nat.le_refl _) ?_; intro v' w' h1 h2 h3))
      go_wp2_with fail
      go_roundw
      case rel => exact ⟨t + 1, by omega, by go_num, by have := h1; rw [HX.out] at this; exact this, h2⟩
      case measure => simp [intOf]; omega
    · obtain rfl : t = 16 := by omega
      rw [show (((16 : Nat)) : Int) = (16 : Int) from rfl]
      clear HC ht
      go_wp2_with fail
      go_loopw [7, 9] (fun v i wr => ∃ t : Nat, 16 ≤ t ∧ t ≤ 80 ∧ i = .int .i64 t ∧ OV wr w.heap.size v (sch C t) ∧ Below w.heap.size w wr) (fun _ i _ => 80 - (intOf i).toNat)
      case atStart => exact ⟨16, Nat.le_refl _, by omega, rfl, HO.out, HB.out⟩
      case round =>
        obtain ⟨t, ht16, ht, rfl, ho, hbe⟩ := hrel
        clear HO HB
        have HO := Lib.hid ho
        have HB := Lib.hid hbe
        by_cases hlt : t < 80
        · obtain ⟨gw, cw, rfl, hcw, hcl⟩ := ho.cells (by rw [sch_len]; omega)
          rw [sch_len] at hcw hcl ⊢
          have gt : ∀ j, j < t → wr.cell? ⟨gw, j, none⟩ = some (.int .u64 (V ((sch C t).getD j 0))) := fun j hj => hcl j hj
          have hnx := nxt_hi C t ht16
          obtain ⟨x2, h2⟩ : ∃ x, x = (sch C t).getD (t - 2) 0 := ⟨_, rfl⟩
          obtain ⟨x7, h7⟩ : ∃ x, x = (sch C t).getD (t - 7) 0 := ⟨_, rfl⟩
          obtain ⟨x15, h15⟩ : ∃ x, x = (sch C t).getD (t - 15) 0 := ⟨_, rfl⟩
          obtain ⟨x16, h16⟩ : ∃ x, x = (sch C t).getD (t - 16) 0 := ⟨_, rfl⟩
          obtain ⟨xn, hxn⟩ : ∃ x, x = nxt C (sch C t) := ⟨_, rfl⟩
          have c2 := gt (t - 2) (by omega)
          have c7 := gt (t - 7) (by omega)
          have c15 := gt (t - 15) (by omega)
          have c16 := gt (t - 16) (by omega)
          rw [← h2] at c2 hnx
          rw [← h7] at c7 hnx
          rw [← h15] at c15 hnx
          rw [← h16] at c16 hnx
          rw [← hxn] at hnx
          have HNx := Lib.hid hnx
          have HXn := Lib.hid hxn
          have HC7 : Hid (wr.drew.cell? ⟨gw, t - 7, none⟩ = some (.int .u64 (V x7))) := c7
          have HC16 : Hid (wr.drew.cell? ⟨gw, t - 16, none⟩ = some (.int .u64 (V x16))) := c16
          have R1 : Hid (∀ w, Calls Tryd.prog 35 #[.int .u64 (V x15), .int .i64 1] w fun e w' => e = .returned (.int .u64 (V (x15.rotateRight 1))) ∧ w = w') := fun w => rright_any x15 1 w (by omega) (by omega)
          have R8 : Hid (∀ w, Calls Tryd.prog 35 #[.int .u64 (V x15), .int .i64 8] w fun e w' => e = .returned (.int .u64 (V (x15.rotateRight 8))) ∧ w = w') := fun w => rright_any x15 8 w (by omega) (by omega)
          have R19 : Hid (∀ w, Calls Tryd.prog 35 #[.int .u64 (V x2), .int .i64 19] w fun e w' => e = .returned (.int .u64 (V (x2.rotateRight 19))) ∧ w = w') := fun w => rright_any x2 19 w (by omega) (by omega)
          have R61 : Hid (∀ w, Calls Tryd.prog 35 #[.int .u64 (V x2), .int .i64 61] w fun e w' => e = .returned (.int .u64 (V (x2.rotateRight 61))) ∧ w = w') := fun w => rright_any x2 61 w (by omega) (by omega)
          have HOd := Lib.hid (show OV wr.drew w.heap.size (.slice (some ⟨gw, 0, none⟩) t cw) (sch C t) by have := HO.out; rw [sch_len] at this; exact this)
          have HBd : Hid (Below w.heap.size w wr.drew) := hbe.drew
          have k0 : (0 : Int) ≤ (t : Int) := by omega
          clear ho hbe hnx h2 h7 h15 h16 hcl gt c7 c16 HO HB hxn
          go_upto_region 11 with fail
          have hxor := V_xor
          have hs7 : V x15 / (128 : Int) = V (x15 >>> 7) := V_shr x15 7
          have hs6 : V x2 / (64 : Int) = V (x2 >>> 6) := V_shr x2 6
          have hlo1 : x2.rotateRight 19 ^^^ x2.rotateRight 61 ^^^ x2 >>> 6 = lo1 x2 := rfl
          have hlo0 : x15.rotateRight 1 ^^^ x15.rotateRight 8 ^^^ x15 >>> 7 = lo0 x15 := rfl
          clear c15 c2
          go_upto_region 13 with (first
            | (go_at_call 35; (with_reducible refine (R1.out _).mono ?_); rintro e w' ⟨rfl, rfl⟩; dsimp only)
            | (go_at_call 35; (with_reducible refine (R8.out _).mono ?_); rintro e w' ⟨rfl, rfl⟩; dsimp only)
            | (go_at_call 35; (with_reducible refine (R19.out _).mono ?_); rintro e w' ⟨rfl, rfl⟩; dsimp only)
            | (go_at_call 35; (with_reducible refine (R61.out _).mono ?_); rintro e w' ⟨rfl, rfl⟩; dsimp only))
          clear hxor hs7 hs6 hlo1 hlo0 R1 R8 R19 R61
          have g7 := HC7.out
          have g16 := HC16.out
          have hsum := HNx.out.symm
          have hle : sch C t = sch C t := rfl
          have HOw : Hid (wr.drew.ownsRow w.heap.size 37 1 (.slice (some ⟨gw, 0, none⟩) t cw) t (vws (sch C t))) := by have := HOd.out; unfold OV at this; rw [sch_len] at this; exact this
          clear HC7 HC16 HNx hle
          generalize hWd : wr.drew = Wd at HOd HOw HBd g7 g16
          have HOw' : Hid ((Wd.alloc (.cells #[.int .u64 (V xn)] 37)).ownsRow w.heap.size 37 1 (.slice (some ⟨gw, 0, none⟩) t cw) t (vws (sch C t))) := World.ownsRow.alloc HOw.out _
          have hadd := V_add
          have a7 : IntKind.i64.wrap ((t : Int) - 7) = (t : Int) - 7 := IntWalk.i64_in _ (by omega)
          have b7 : ((t : Int) - 7).toNat = t - 7 := by omega
          have d7 : (7 : Int) ≤ (t : Int) := by omega
          have e7 : (t : Int) - 7 < (t : Int) := by omega
          have a16 : IntKind.i64.wrap ((t : Int) - 16) = (t : Int) - 16 := IntWalk.i64_in _ (by omega)
          have b16 : ((t : Int) - 16).toNat = t - 16 := by omega
          have d16 : (16 : Int) ≤ (t : Int) := by omega
          have e16 : (t : Int) - 16 < (t : Int) := by omega
          refine wp_region_to (z := 17) (SB Wd) (by kernel_rfl) ?_
          rw [hWd]
          have hS : (SB Wd) Wd := Below.refl _ _
          refine AnyTo.take (i := 0) (v := ?_) rfl (by kernel_rfl) (by kernel_rfl) (by kernel_rfl) (by kernel_rfl) (by kernel_rfl) (fun _ _ _ h => h) (Or.inl ⟨by rfl, ?_⟩) hS ?_
          rotate_left
          · (intro wq hq; go_simp; try with_reducible rfl)
          try simp only [Act.put, List.setIfInBounds_toArray, List.set_cons_zero, List.set_cons_succ, List.getElem_toArray, List.getElem_cons_zero, List.getElem_cons_succ]
          refine AnyTo.take (i := 1) (v := ?_) rfl (by kernel_rfl) (by kernel_rfl) (by kernel_rfl) (by kernel_rfl) (by kernel_rfl) (fun _ _ _ h => h) (Or.inl ⟨by rfl, ?_⟩) hS ?_
          rotate_left
          · (intro wq hq; go_simp; try with_reducible rfl)
          try simp only [Act.put, List.setIfInBounds_toArray, List.set_cons_zero, List.set_cons_succ, List.getElem_toArray, List.getElem_cons_zero, List.getElem_cons_succ]
          refine AnyTo.take (i := 2) (v := ?_) rfl (by kernel_rfl) (by kernel_rfl) (by kernel_rfl) (by kernel_rfl) (by kernel_rfl) (fun _ _ _ h => h) (Or.inl ⟨by rfl, ?_⟩) hS ?_
          rotate_left
          · (intro wq hq; go_simp; try with_reducible rfl)
          try simp only [Act.put, List.setIfInBounds_toArray, List.set_cons_zero, List.set_cons_succ, List.getElem_toArray, List.getElem_cons_zero, List.getElem_cons_succ]
          refine AnyTo.take (i := 3) (v := ?_) rfl (by kernel_rfl) (by kernel_rfl) (by kernel_rfl) (by kernel_rfl) (by kernel_rfl) (fun _ _ _ h => h) (Or.inl ⟨by rfl, ?_⟩) hS ?_
          rotate_left
          · (intro wq hq; go_simp; try with_reducible rfl)
          try simp only [Act.put, List.setIfInBounds_toArray, List.set_cons_zero, List.set_cons_succ, List.getElem_toArray, List.getElem_cons_zero, List.getElem_cons_succ]
          refine AnyTo.take (i := 4) (v := ?_) rfl (by kernel_rfl) (by kernel_rfl) (by kernel_rfl) (by kernel_rfl) (by kernel_rfl) (fun _ _ _ h => h) (Or.inl ⟨by rfl, ?_⟩) hS ?_
          rotate_left
          · (intro wq hq; go_simp; try with_reducible rfl)
          try simp only [Act.put, List.setIfInBounds_toArray, List.set_cons_zero, List.set_cons_succ, List.getElem_toArray, List.getElem_cons_zero, List.getElem_cons_succ]
          refine AnyTo.take (i := 5) (v := ?_) rfl (by kernel_rfl) (by kernel_rfl) (by kernel_rfl) (by kernel_rfl) (by kernel_rfl) (fun _ _ _ h => h) (Or.inl ⟨by rfl, ?_⟩) hS ?_
          rotate_left
          · (intro wq hq; go_simp; try with_reducible rfl)
          try simp only [Act.put, List.setIfInBounds_toArray, List.set_cons_zero, List.set_cons_succ, List.getElem_toArray, List.getElem_cons_zero, List.getElem_cons_succ]
          refine AnyTo.take (i := 6) (v := .int .u64 (V x7)) rfl (by kernel_rfl) (by kernel_rfl) (by kernel_rfl) (by kernel_rfl) (by kernel_rfl) (fun _ _ _ h => h) (Or.inl ⟨by rfl, ?_⟩) hS ?_
          · intro wq hq
            have dq0 := SB.cell hq g7
            go_simp
          try simp only [Act.put, List.setIfInBounds_toArray, List.set_cons_zero, List.set_cons_succ, List.getElem_toArray, List.getElem_cons_zero, List.getElem_cons_succ]
          refine AnyTo.take (i := 7) (v := .int .u64 (V (lo1 x2 + x7))) rfl (by kernel_rfl) (by kernel_rfl) (by kernel_rfl) (by kernel_rfl) (by kernel_rfl) (fun _ _ _ h => h) (Or.inl ⟨by rfl, ?_⟩) hS ?_
          · intro wq hq
            go_simp
          try simp only [Act.put, List.setIfInBounds_toArray, List.set_cons_zero, List.set_cons_succ, List.getElem_toArray, List.getElem_cons_zero, List.getElem_cons_succ]
          refine AnyTo.take (i := 8) (v := ?_) rfl (by kernel_rfl) (by kernel_rfl) (by kernel_rfl) (by kernel_rfl) (by kernel_rfl) (fun _ _ _ h => h) (Or.inl ⟨by rfl, ?_⟩) hS ?_
          rotate_left
          · (intro wq hq; go_simp; try with_reducible rfl)
          try simp only [Act.put, List.setIfInBounds_toArray, List.set_cons_zero, List.set_cons_succ, List.getElem_toArray, List.getElem_cons_zero, List.getElem_cons_succ]
          refine AnyTo.take (i := 9) (v := .int .u64 (V (lo1 x2 + x7 + lo0 x15))) rfl (by kernel_rfl) (by kernel_rfl) (by kernel_rfl) (by kernel_rfl) (by kernel_rfl) (fun _ _ _ h => h) (Or.inl ⟨by rfl, ?_⟩) hS ?_
          · intro wq hq
            go_simp
          try simp only [Act.put, List.setIfInBounds_toArray, List.set_cons_zero, List.set_cons_succ, List.getElem_toArray, List.getElem_cons_zero, List.getElem_cons_succ]
          refine AnyTo.take (i := 10) (v := ?_) rfl (by kernel_rfl) (by kernel_rfl) (by kernel_rfl) (by kernel_rfl) (by kernel_rfl) (fun _ _ _ h => h) (Or.inl ⟨by rfl, ?_⟩) hS ?_
          rotate_left
          · (intro wq hq; go_simp; try with_reducible rfl)
          try simp only [Act.put, List.setIfInBounds_toArray, List.set_cons_zero, List.set_cons_succ, List.getElem_toArray, List.getElem_cons_zero, List.getElem_cons_succ]
          refine AnyTo.take (i := 11) (v := ?_) rfl (by kernel_rfl) (by kernel_rfl) (by kernel_rfl) (by kernel_rfl) (by kernel_rfl) (fun _ _ _ h => h) (Or.inl ⟨by rfl, ?_⟩) hS ?_
          rotate_left
          · (intro wq hq; go_simp; try with_reducible rfl)
          try simp only [Act.put, List.setIfInBounds_toArray, List.set_cons_zero, List.set_cons_succ, List.getElem_toArray, List.getElem_cons_zero, List.getElem_cons_succ]
          refine AnyTo.take (i := 12) (v := ?_) rfl (by kernel_rfl) (by kernel_rfl) (by kernel_rfl) (by kernel_rfl) (by kernel_rfl) (fun _ _ _ h => h) (Or.inl ⟨by rfl, ?_⟩) hS ?_
          rotate_left
          · (intro wq hq; go_simp; try with_reducible rfl)
          try simp only [Act.put, List.setIfInBounds_toArray, List.set_cons_zero, List.set_cons_succ, List.getElem_toArray, List.getElem_cons_zero, List.getElem_cons_succ]
          refine AnyTo.take (i := 13) (v := ?_) rfl (by kernel_rfl) (by kernel_rfl) (by kernel_rfl) (by kernel_rfl) (by kernel_rfl) (fun _ _ _ h => h) (Or.inl ⟨by rfl, ?_⟩) hS ?_
          rotate_left
          · (intro wq hq; go_simp; try with_reducible rfl)
          try simp only [Act.put, List.setIfInBounds_toArray, List.set_cons_zero, List.set_cons_succ, List.getElem_toArray, List.getElem_cons_zero, List.getElem_cons_succ]
          refine AnyTo.take (i := 14) (v := .int .u64 (V x16)) rfl (by kernel_rfl) (by kernel_rfl) (by kernel_rfl) (by kernel_rfl) (by kernel_rfl) (fun _ _ _ h => h) (Or.inl ⟨by rfl, ?_⟩) hS ?_
          · intro wq hq
            have dq0 := SB.cell hq g16
            go_simp
          try simp only [Act.put, List.setIfInBounds_toArray, List.set_cons_zero, List.set_cons_succ, List.getElem_toArray, List.getElem_cons_zero, List.getElem_cons_succ]
          refine AnyTo.take (i := 15) (v := .int .u64 (V xn)) rfl (by kernel_rfl) (by kernel_rfl) (by kernel_rfl) (by kernel_rfl) (by kernel_rfl) (fun _ _ _ h => h) (Or.inl ⟨by rfl, ?_⟩) hS ?_
          · intro wq hq
            go_simp
          try simp only [Act.put, List.setIfInBounds_toArray, List.set_cons_zero, List.set_cons_succ, List.getElem_toArray, List.getElem_cons_zero, List.getElem_cons_succ]
          have hS2 : SB Wd (Wd.alloc (.cells #[.int .u64 (V xn)] 37)) := (Below.refl Wd.heap.size Wd).alloc (Nat.le_refl _) _
          clear hS
          have hS := hS2
          clear hS2
          refine AnyTo.gone (i := 16) (by kernel_rfl) rfl (by rfl) (fun K hK => ?_)
          go_simp
          refine hK _ _ (fun _ => hS) ?_
          clear hK K
          try simp only [Act.put, List.setIfInBounds_toArray, List.set_cons_zero, List.set_cons_succ, List.getElem_toArray, List.getElem_cons_zero, List.getElem_cons_succ]
          refine AnyTo.gone (i := 17) (by kernel_rfl) rfl (by rfl) (fun K hK => ?_)
          refine wp_app33 (.tmp 69) (.tmp 85) rfl rfl w.heap.size (.slice (some ⟨gw, 0, none⟩) t cw) t (vws (sch C t)) rfl HOw'.out (some ⟨Wd.heap.size, 0, none⟩) 1 1 (vws [xn]) rfl (src33_one Wd xn) (fun h => by cases h) (by omega) (Nat.le_trans HBd.out.size (by simp)) ?_
          intro v' w' h1 h2
          refine hK _ _ (fun h => absurd h (by decide)) ?_
          clear hK K
          try simp only [Act.put, List.setIfInBounds_toArray, List.set_cons_zero, List.set_cons_succ, List.getElem_toArray, List.getElem_cons_zero, List.getElem_cons_succ]
          refine AnyTo.gone (i := 18) (by kernel_rfl) rfl (by rfl) (fun K hK => ?_)
          go_simp
          refine hK _ _ (fun h => absurd h (by decide)) ?_
          clear hK K
          try simp only [Act.put, List.setIfInBounds_toArray, List.set_cons_zero, List.set_cons_succ, List.getElem_toArray, List.getElem_cons_zero, List.getElem_cons_succ]
          refine AnyTo.done (by kernel_rfl) ?_ _
          try dsimp only [Exit.then]
          clear hadd a7 b7 d7 e7 a16 b16 d16 e16 g7 g16 hsum hS
          have H1 := Lib.hid h1
          have H2 := Lib.hid h2
          clear h1 h2
          go_wp2_with fail
          go_roundw
          case rel =>
            refine ⟨t + 1, by omega, by omega, by go_num, ?_⟩
            have hA := OV.app (L := sch C t) (M := [xn]) (B' := w.heap.size) (w0 := w) (show OV (Wd.alloc (.cells #[.int .u64 (V xn)] 37)) w.heap.size (.slice (some ⟨gw, 0, none⟩) t cw) (sch C t) from HOd.out.alloc _) (HBd.out.alloc HBd.out.size _) (Nat.le_trans HBd.out.size (by simp)) (Nat.le_refl _) (by have := H1.out; rw [sch_len]; exact this) H2.out
            exact ⟨by have := hA.1; rw [HXn.out] at this; exact this, hA.2⟩
          case measure => simp [intOf]; omega
        · obtain rfl : t = 80 := by omega
          rw [show (((80 : Nat)) : Int) = (80 : Int) from rfl]
          obtain ⟨gw, cw, rfl, hcw, hclw⟩ := ho.cells (by rw [sch_len]; omega)
          rw [sch_len] at hclw hcw ⊢
          obtain ⟨X, hX⟩ : ∃ X, X = sch C 80 := ⟨_, rfl⟩
          have HX := Lib.hid hX
          rw [← hX] at hclw
          obtain ⟨w2, hw2⟩ : ∃ w2, w2 = wr := ⟨_, rfl⟩
          subst hw2
          have HCW := Lib.hid hclw
          have HB2 := Lib.hid hbe
          obtain ⟨gk, ok, ek, hgk, hck2⟩ := Hk.out (by decide)
          subst ek
          have HCK := Lib.hid hck2
          have Hgk := Lib.hid hgk
          obtain ⟨gh, oh, eh, hgh, hch2⟩ := Hh.out (by simp [stl])
          subst eh
          have HCH := Lib.hid hch2
          have Hgh := Lib.hid hgh
          have HS8 := Lib.hid (src33_of_rd (Hh.out.keep hbe (Nat.le_refl _)))
          clear ho hbe HO HB hclw hX hgk hck2 hgh hch2 ht16 ht hlt
          go_upto_region 16 with (((with_reducible show wpList _ _ _ ((⟨some 89, _, _, _, _, _⟩ : Oper) :: _) _ _); refine wpList_push33 (o := ⟨some 89, _, _, _, _, _⟩) rfl (.tmp 87) (.tmp 88) rfl rfl w2.heap.size _ [] (stl s) rfl (OV.nil _ _) (some ⟨gh, oh, none⟩) 8 ch rfl rfl HS8.out (fun h => by cases h) (by simp [stl]) (Below.refl w2.heap.size w2) (Nat.le_refl _) (Nat.le_refl _) ?_; intro v3 w3 h1 h2 h3))
          rw [List.nil_append] at h1
          have H1 := Lib.hid (h1.base HB2.out.size)
          have H2 := Lib.hid h2
          have H3 := Lib.hid (HB2.out.trans (h2.mono HB2.out.size))
          clear h1 h2 h3 HS8
          go_wp2_with fail
          go_loopw [14, 15] (fun v i wr => ∃ k : Nat, k ≤ 80 ∧ i = .int .i64 k ∧ OV wr w.heap.size v (stl (rounds s X k)) ∧ Below w.heap.size w wr ∧ Below w2.heap.size w2 wr) (fun _ i _ => 80 - (intOf i).toNat)
          case atStart => exact ⟨0, Nat.zero_le _, rfl, H1.out, H3.out, H2.out⟩
          case round =>
            obtain ⟨k, hk80, rfl, ho, hbw, hbw2⟩ := hrel
            clear H1 H2 H3
            have HBw := Lib.hid hbw
            have HBw2 := Lib.hid hbw2
            obtain ⟨gv, cv, rfl, hcv, hcl⟩ := ho.cells (by simp [stl])
            have hlen8 : (stl (rounds s X k)).length = 8 := rfl
            rw [hlen8] at hcv ⊢
            by_cases hlt : k < 80
            · obtain ⟨T, hT⟩ : ∃ T, T = rounds s X k := ⟨_, rfl⟩
              rw [← hT] at hcl
              obtain ⟨kk, hkk⟩ : ∃ x, x = KK.getD k 0 := ⟨_, rfl⟩
              obtain ⟨x, hx⟩ : ∃ x, x = X.getD k 0 := ⟨_, rfl⟩
              have hTC : TC gv gk ok gw k T kk x wr :=
                { c0 := hcl 0 (by simp [stl]), c1 := hcl 1 (by simp [stl]), c2 := hcl 2 (by simp [stl]), c3 := hcl 3 (by simp [stl]), c4 := hcl 4 (by simp [stl]), c5 := hcl 5 (by simp [stl]), c6 := hcl 6 (by simp [stl]), c7 := hcl 7 (by simp [stl])
                  ck := by rw [hbw.cell (p := ⟨gk, ok + k, none⟩) Hgk.out, hkk]; exact HCK.out k (by exact hlt)
                  cw := by rw [hbw2.cell (p := ⟨gw, k, none⟩) (World.block_lt_of_cell? w2 _ (HCW.out k hlt)), hx]; exact HCW.out k hlt }
              have HT := Lib.hid hTC
              have HTe := Lib.hid hT
              have HKk := Lib.hid hkk
              have HXx := Lib.hid hx
              have k0 : (0 : Int) ≤ (k : Int) := by omega
              have k1 : (k : Int) < 80 := by omega
              obtain ⟨Wc, hWc⟩ : ∃ W, W = wr := ⟨_, rfl⟩
              have HA : Hid (Al wr Wc) := show Al wr Wc by rw [hWc]; exact Al.refl _
              rw [← hWc]
              clear ho hbw hbw2 hcl hTC hT hkk hx hWc hlen8
              go_upto_region 19 with fail
              have TN := HT.out.al HA.out
              have c4 := TN.c4
              have hxor := V_xor
              have hup : T.e.rotateRight 14 ^^^ T.e.rotateRight 18 ^^^ T.e.rotateRight 41 = up1 T.e := rfl
              clear TN
              have QR14 : Hid (∀ m, Calls Tryd.prog 35 #[.int .u64 (V T.e), .int .i64 14] (Wc.drewN m) fun e w'' => e = .returned (.int .u64 (V (T.e.rotateRight 14))) ∧ ∃ m', w'' = Wc.drewN m') := fun m => (rright_any T.e 14 _ (by omega) (by omega)).mono fun e w' h => ⟨h.1, m, h.2.symm⟩
              have QR18 : Hid (∀ m, Calls Tryd.prog 35 #[.int .u64 (V T.e), .int .i64 18] (Wc.drewN m) fun e w'' => e = .returned (.int .u64 (V (T.e.rotateRight 18))) ∧ ∃ m', w'' = Wc.drewN m') := fun m => (rright_any T.e 18 _ (by omega) (by omega)).mono fun e w' h => ⟨h.1, m, h.2.symm⟩
              have QR41 : Hid (∀ m, Calls Tryd.prog 35 #[.int .u64 (V T.e), .int .i64 41] (Wc.drewN m) fun e w'' => e = .returned (.int .u64 (V (T.e.rotateRight 41))) ∧ ∃ m', w'' = Wc.drewN m') := fun m => (rright_any T.e 41 _ (by omega) (by omega)).mono fun e w' h => ⟨h.1, m, h.2.symm⟩
              go_quiet ((first | (with_reducible exact QR14.out _) | (with_reducible exact QR18.out _) | (with_reducible exact QR41.out _)))
              clear c4 hxor hup QR14 QR18 QR41
              generalize hw : Wc.drewN nq = Wn
              have HAn := Lib.hid (show Al wr Wn by rw [← hw]; exact HA.out.step _)
              clear hw HA
              obtain ⟨Wc, hWc⟩ : ∃ W, W = Wn := ⟨_, rfl⟩
              subst hWc
              have HA := Lib.hid HAn.out
              clear HAn
              go_upto_region 20 with fail
              have TN := HT.out.al HA.out
              have c4 := TN.c4
              have c5 := TN.c5
              have c6 := TN.c6
              have hxor := V_xor
              have hand := V_and
              have hnot := V_not
              clear TN
              go_quiet (fail)
              clear c4 c5 c6 hxor hand hnot
              generalize hw : Wc.drewN nq = Wn
              have HAn := Lib.hid (show Al wr Wn by rw [← hw]; exact HA.out.step _)
              clear hw HA
              obtain ⟨Wc, hWc⟩ : ∃ W, W = Wn := ⟨_, rfl⟩
              subst hWc
              have HA := Lib.hid HAn.out
              clear HAn
              go_upto_region 21 with fail
              have TN := HT.out.al HA.out
              have c7 := TN.c7
              have ck := TN.ck
              have cw := TN.cw
              have hadd := V_add
              clear TN
              go_quiet (fail)
              clear c7 ck cw hadd
              generalize hw : Wc.drewN nq = Wn
              have HAn := Lib.hid (show Al wr Wn by rw [← hw]; exact HA.out.step _)
              clear hw HA
              obtain ⟨Wc, hWc⟩ : ∃ W, W = Wn := ⟨_, rfl⟩
              subst hWc
              have HA := Lib.hid HAn.out
              clear HAn
              go_upto_region 22 with fail
              have TN := HT.out.al HA.out
              have c0 := TN.c0
              have hxor := V_xor
              have hup : T.a.rotateRight 28 ^^^ T.a.rotateRight 34 ^^^ T.a.rotateRight 39 = up0 T.a := rfl
              clear TN
              have QR28 : Hid (∀ m, Calls Tryd.prog 35 #[.int .u64 (V T.a), .int .i64 28] (Wc.drewN m) fun e w'' => e = .returned (.int .u64 (V (T.a.rotateRight 28))) ∧ ∃ m', w'' = Wc.drewN m') := fun m => (rright_any T.a 28 _ (by omega) (by omega)).mono fun e w' h => ⟨h.1, m, h.2.symm⟩
              have QR34 : Hid (∀ m, Calls Tryd.prog 35 #[.int .u64 (V T.a), .int .i64 34] (Wc.drewN m) fun e w'' => e = .returned (.int .u64 (V (T.a.rotateRight 34))) ∧ ∃ m', w'' = Wc.drewN m') := fun m => (rright_any T.a 34 _ (by omega) (by omega)).mono fun e w' h => ⟨h.1, m, h.2.symm⟩
              have QR39 : Hid (∀ m, Calls Tryd.prog 35 #[.int .u64 (V T.a), .int .i64 39] (Wc.drewN m) fun e w'' => e = .returned (.int .u64 (V (T.a.rotateRight 39))) ∧ ∃ m', w'' = Wc.drewN m') := fun m => (rright_any T.a 39 _ (by omega) (by omega)).mono fun e w' h => ⟨h.1, m, h.2.symm⟩
              go_quiet ((first | (with_reducible exact QR28.out _) | (with_reducible exact QR34.out _) | (with_reducible exact QR39.out _)))
              clear c0 hxor hup QR28 QR34 QR39
              generalize hw : Wc.drewN nq = Wn
              have HAn := Lib.hid (show Al wr Wn by rw [← hw]; exact HA.out.step _)
              clear hw HA
              obtain ⟨Wc, hWc⟩ : ∃ W, W = Wn := ⟨_, rfl⟩
              subst hWc
              have HA := Lib.hid HAn.out
              clear HAn
              go_upto_region 23 with fail
              have TN := HT.out.al HA.out
              have c0 := TN.c0
              have c1 := TN.c1
              have c2 := TN.c2
              have hxor := V_xor
              have hand := V_and
              clear TN
              go_quiet (fail)
              clear c0 c1 c2 hxor hand
              generalize hw : Wc.drewN nq = Wn
              have HAn := Lib.hid (show Al wr Wn by rw [← hw]; exact HA.out.step _)
              clear hw HA
              obtain ⟨Wc, hWc⟩ : ∃ W, W = Wn := ⟨_, rfl⟩
              subst hWc
              have HA := Lib.hid HAn.out
              clear HAn
              go_upto_region 24 with fail
              have hadd := V_add
              go_upto_region 25 with fail
              clear hadd
              refine wp_region_still_tail 26 (by kernel_rfl) (by kernel_rfl) ?_
              change wpStill _ _ Wc.drew (fun a' => wpList _ _ _ _ a' Wc.drew) _ _
              have TN := HT.out.al HA.out.drew
              have HD := Lib.hid (HA.out.drew)
              generalize Wc.drew = Wd at TN HD ⊢
              have c0 := TN.c0
              have c1 := TN.c1
              have c2 := TN.c2
              have c3 := TN.c3
              have c4 := TN.c4
              have c5 := TN.c5
              have c6 := TN.c6
              have hadd := V_add
              clear TN
              simp only [List.take_succ_cons, List.take_zero, List.drop_succ_cons, List.drop_zero]
              repeat still_step
              refine wpStill_nil ?_
              clear c0 c1 c2 c3 c4 c5 c6 hadd
              go_wp2_with fail
              go_roundw
              case rel =>
                have hbd := HD.out.below HBw.out
                have hbd2 := HD.out.below HBw2.out
                refine ⟨k + 1, by omega, by go_num, ?_, hbd.alloc hbd.size _, hbd2.alloc hbd2.size _⟩
                have hn := ov_new Wd (stl (rnd T kk x)) w.heap.size hbd.size (by unfold maxLen; simp [stl])
                rw [HTe.out, HKk.out, HXx.out] at hn ⊢
                exact hn
              case measure => simp [intOf]; omega
            · obtain rfl : k = 80 := by omega
              rw [show (((80 : Nat)) : Int) = (80 : Int) from rfl]
              obtain ⟨T, hT⟩ : ∃ T, T = rounds s X 80 := ⟨_, rfl⟩
              rw [← hT] at hcl
              have hP : proc s C = addS s T := by unfold proc; rw [hT, HX.out]
              have HPr := Lib.hid hP
              obtain ⟨w5, hw5⟩ : ∃ w5, w5 = wr := ⟨_, rfl⟩
              subst hw5
              have HCV := Lib.hid hcl
              clear ho hbw hbw2 hcl hT hP hlen8 hlt hk80 HCW HCK HBw2 HX
              go_wp2_with fail
              go_loopw [22, 23] (fun v i wr => ∃ j : Nat, j ≤ 8 ∧ i = .int .i64 j ∧ OV wr w5.heap.size v ((stl (addS s T)).take j) ∧ Below w5.heap.size w5 wr) (fun _ i _ => 8 - (intOf i).toNat)
              case atStart => exact ⟨0, Nat.zero_le _, rfl, OV.nil _ _, Below.refl _ _⟩
              case round =>
                obtain ⟨j, hj8, rfl, ho, hb5⟩ := hrel
                have HO := Lib.hid ho
                have HB5 := Lib.hid hb5
                by_cases hlt : j < 8
                · obtain ⟨p, hp⟩ : ∃ x, x = (stl s).getD j 0 := ⟨_, rfl⟩
                  obtain ⟨q, hq0⟩ : ∃ x, x = (stl T).getD j 0 := ⟨_, rfl⟩
                  have hsum := stl_add s T j hlt
                  rw [← hp, ← hq0] at hsum
                  obtain ⟨Lj, hLj⟩ : ∃ L, L = (stl (addS s T)).take j := ⟨_, rfl⟩
                  have hlj : Lj.length = j := by rw [hLj, List.length_take, show (stl (addS s T)).length = 8 from rfl]; omega
                  have hnext : (stl (addS s T)).take (j + 1) = Lj ++ [p + q] := by rw [take_next (by rw [show (stl (addS s T)).length = 8 from rfl]; exact hlt), hsum, hLj]
                  rw [← hLj] at ho
                  have gp0 : wr.drew.cell? ⟨gh, oh + j, none⟩ = some (.int .u64 (V p)) := by
                    show wr.cell? ⟨gh, oh + j, none⟩ = _
                    rw [hb5.cell (p := ⟨gh, oh + j, none⟩) (Nat.lt_of_lt_of_le Hgh.out HBw.out.size), HBw.out.cell (p := ⟨gh, oh + j, none⟩) Hgh.out, hp]; exact HCH.out j (by exact hlt)
                  have gq0 : wr.drew.cell? ⟨gv, j, none⟩ = some (.int .u64 (V q)) := by
                    show wr.cell? ⟨gv, j, none⟩ = _
                    rw [hb5.cell (p := ⟨gv, j, none⟩) (World.block_lt_of_cell? w5 _ (HCV.out j (by exact hlt))), hq0]; exact HCV.out j (by exact hlt)
                  have HOw0 : Hid (wr.drew.ownsRow w5.heap.size 37 1 u22 j (vws Lj)) := by have := ho; unfold OV at this; rw [hlj] at this; exact this
                  have HBd0 : Hid (Below w5.heap.size w5 wr.drew) := hb5.drew
                  have Hlj := Lib.hid hlj
                  have Hnext := Lib.hid hnext
                  have j0 : (0 : Int) ≤ (j : Int) := by omega
                  have j1 : (j : Int) < 8 := by omega
                  have j2 : (j : Int) < 8 := by omega
                  clear ho hb5 hp hq0 hsum hLj hnext HO HB5 HCV HCH hlj
                  go_upto_region 30 with fail
                  generalize hWd : wr.drew = Wd at HOw0 HBd0 gp0 gq0
                  have gp := gp0
                  have gq := gq0
                  clear gp0 gq0
                  have HBd := Lib.hid HBd0.out
                  have HOw' : Hid ((Wd.alloc (.cells #[.int .u64 (V (p + q))] 37)).ownsRow w5.heap.size 37 1 u22 j (vws Lj)) := World.ownsRow.alloc HOw0.out _
                  have hadd := V_add
                  refine wp_region_to (z := 11) (SB Wd) (by kernel_rfl) ?_
                  rw [hWd]
                  have hS : (SB Wd) Wd := Below.refl _ _
                  refine AnyTo.take (i := 0) (v := ?_) rfl (by kernel_rfl) (by kernel_rfl) (by kernel_rfl) (by kernel_rfl) (by kernel_rfl) (fun _ _ _ h => h) (Or.inl ⟨by rfl, ?_⟩) hS ?_
                  rotate_left
                  · (intro wq hq; go_simp; try with_reducible rfl)
                  try simp only [Act.put, List.setIfInBounds_toArray, List.set_cons_zero, List.set_cons_succ, List.getElem_toArray, List.getElem_cons_zero, List.getElem_cons_succ]
                  refine AnyTo.take (i := 1) (v := ?_) rfl (by kernel_rfl) (by kernel_rfl) (by kernel_rfl) (by kernel_rfl) (by kernel_rfl) (fun _ _ _ h => h) (Or.inl ⟨by rfl, ?_⟩) hS ?_
                  rotate_left
                  · (intro wq hq; go_simp; try with_reducible rfl)
                  try simp only [Act.put, List.setIfInBounds_toArray, List.set_cons_zero, List.set_cons_succ, List.getElem_toArray, List.getElem_cons_zero, List.getElem_cons_succ]
                  refine AnyTo.take (i := 2) (v := ?_) rfl (by kernel_rfl) (by kernel_rfl) (by kernel_rfl) (by kernel_rfl) (by kernel_rfl) (fun _ _ _ h => h) (Or.inl ⟨by rfl, ?_⟩) hS ?_
                  rotate_left
                  · (intro wq hq; go_simp; try with_reducible rfl)
                  try simp only [Act.put, List.setIfInBounds_toArray, List.set_cons_zero, List.set_cons_succ, List.getElem_toArray, List.getElem_cons_zero, List.getElem_cons_succ]
                  refine AnyTo.take (i := 3) (v := ?_) rfl (by kernel_rfl) (by kernel_rfl) (by kernel_rfl) (by kernel_rfl) (by kernel_rfl) (fun _ _ _ h => h) (Or.inl ⟨by rfl, ?_⟩) hS ?_
                  rotate_left
                  · (intro wq hq; go_simp; try with_reducible rfl)
                  try simp only [Act.put, List.setIfInBounds_toArray, List.set_cons_zero, List.set_cons_succ, List.getElem_toArray, List.getElem_cons_zero, List.getElem_cons_succ]
                  refine AnyTo.take (i := 4) (v := .int .u64 (V p)) rfl (by kernel_rfl) (by kernel_rfl) (by kernel_rfl) (by kernel_rfl) (by kernel_rfl) (fun _ _ _ h => h) (Or.inl ⟨by rfl, ?_⟩) hS ?_
                  · intro wq hq
                    have dq0 := SB.cell hq gp
                    go_simp
                  try simp only [Act.put, List.setIfInBounds_toArray, List.set_cons_zero, List.set_cons_succ, List.getElem_toArray, List.getElem_cons_zero, List.getElem_cons_succ]
                  refine AnyTo.take (i := 5) (v := ?_) rfl (by kernel_rfl) (by kernel_rfl) (by kernel_rfl) (by kernel_rfl) (by kernel_rfl) (fun _ _ _ h => h) (Or.inl ⟨by rfl, ?_⟩) hS ?_
                  rotate_left
                  · (intro wq hq; go_simp; try with_reducible rfl)
                  try simp only [Act.put, List.setIfInBounds_toArray, List.set_cons_zero, List.set_cons_succ, List.getElem_toArray, List.getElem_cons_zero, List.getElem_cons_succ]
                  refine AnyTo.take (i := 6) (v := ?_) rfl (by kernel_rfl) (by kernel_rfl) (by kernel_rfl) (by kernel_rfl) (by kernel_rfl) (fun _ _ _ h => h) (Or.inl ⟨by rfl, ?_⟩) hS ?_
                  rotate_left
                  · (intro wq hq; go_simp; try with_reducible rfl)
                  try simp only [Act.put, List.setIfInBounds_toArray, List.set_cons_zero, List.set_cons_succ, List.getElem_toArray, List.getElem_cons_zero, List.getElem_cons_succ]
                  refine AnyTo.take (i := 7) (v := ?_) rfl (by kernel_rfl) (by kernel_rfl) (by kernel_rfl) (by kernel_rfl) (by kernel_rfl) (fun _ _ _ h => h) (Or.inl ⟨by rfl, ?_⟩) hS ?_
                  rotate_left
                  · (intro wq hq; go_simp; try with_reducible rfl)
                  try simp only [Act.put, List.setIfInBounds_toArray, List.set_cons_zero, List.set_cons_succ, List.getElem_toArray, List.getElem_cons_zero, List.getElem_cons_succ]
                  refine AnyTo.take (i := 8) (v := .int .u64 (V q)) rfl (by kernel_rfl) (by kernel_rfl) (by kernel_rfl) (by kernel_rfl) (by kernel_rfl) (fun _ _ _ h => h) (Or.inl ⟨by rfl, ?_⟩) hS ?_
                  · intro wq hq
                    have dq0 := SB.cell hq gq
                    go_simp
                  try simp only [Act.put, List.setIfInBounds_toArray, List.set_cons_zero, List.set_cons_succ, List.getElem_toArray, List.getElem_cons_zero, List.getElem_cons_succ]
                  refine AnyTo.take (i := 9) (v := .int .u64 (V (p + q))) rfl (by kernel_rfl) (by kernel_rfl) (by kernel_rfl) (by kernel_rfl) (by kernel_rfl) (fun _ _ _ h => h) (Or.inl ⟨by rfl, ?_⟩) hS ?_
                  · intro wq hq
                    go_simp
                  try simp only [Act.put, List.setIfInBounds_toArray, List.set_cons_zero, List.set_cons_succ, List.getElem_toArray, List.getElem_cons_zero, List.getElem_cons_succ]
                  have hS2 : SB Wd (Wd.alloc (.cells #[.int .u64 (V (p + q))] 37)) := (Below.refl Wd.heap.size Wd).alloc (Nat.le_refl _) _
                  clear hS
                  have hS := hS2
                  clear hS2
                  refine AnyTo.gone (i := 10) (by kernel_rfl) rfl (by rfl) (fun K hK => ?_)
                  go_simp
                  refine hK _ _ (fun _ => hS) ?_
                  clear hK K
                  try simp only [Act.put, List.setIfInBounds_toArray, List.set_cons_zero, List.set_cons_succ, List.getElem_toArray, List.getElem_cons_zero, List.getElem_cons_succ]
                  refine AnyTo.gone (i := 11) (by kernel_rfl) rfl (by rfl) (fun K hK => ?_)
                  refine wp_app33 (.tmp 212) (.tmp 222) rfl rfl w5.heap.size u22 j (vws Lj) rfl HOw'.out (some ⟨Wd.heap.size, 0, none⟩) 1 1 (vws [p + q]) rfl (src33_one Wd (p + q)) (fun h => by cases h) (by omega) (Nat.le_trans HBd.out.size (by simp)) ?_
                  intro v' w' h1 h2
                  refine hK _ _ (fun h => absurd h (by decide)) ?_
                  clear hK K
                  try simp only [Act.put, List.setIfInBounds_toArray, List.set_cons_zero, List.set_cons_succ, List.getElem_toArray, List.getElem_cons_zero, List.getElem_cons_succ]
                  refine AnyTo.gone (i := 12) (by kernel_rfl) rfl (by rfl) (fun K hK => ?_)
                  go_simp
                  refine hK _ _ (fun h => absurd h (by decide)) ?_
                  clear hK K
                  try simp only [Act.put, List.setIfInBounds_toArray, List.set_cons_zero, List.set_cons_succ, List.getElem_toArray, List.getElem_cons_zero, List.getElem_cons_succ]
                  refine AnyTo.done (by kernel_rfl) ?_ _
                  try dsimp only [Exit.then]
                  clear hadd gp gq hS
                  have H1 := Lib.hid h1
                  have H2 := Lib.hid h2
                  clear h1 h2
                  go_wp2_with fail
                  go_roundw
                  case rel =>
                    refine ⟨j + 1, by omega, by go_num, ?_⟩
                    have hA := OV.app (L := Lj) (M := [p + q]) (B' := w5.heap.size) (w0 := w5) (show OV (Wd.alloc (.cells #[.int .u64 (V (p + q))] 37)) w5.heap.size u22 Lj by unfold OV; rw [Hlj.out]; exact HOw'.out) (HBd.out.alloc HBd.out.size _) (Nat.le_trans HBd.out.size (by simp)) (Nat.le_refl _) (by have := H1.out; rw [Hlj.out]; exact this) H2.out
                    exact ⟨by rw [Hnext.out]; exact hA.1, hA.2⟩
                  case measure => simp [intOf]; omega
                · obtain rfl : j = 8 := by omega
                  clear ho hb5
                  go_wp2_with fail
                  go_ret
                  exact ⟨_, rfl, by rw [HPr.out]; exact HO.out.base HBw.out.size, HBw.out.trans (HB5.out.mono HBw.out.size)⟩
end Go.Proofs.YtffngfjbaimbhaaDoor
