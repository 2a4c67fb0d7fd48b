/- What sha512.digest returns, for any first eight words and any bytes. -/
import Derived.Test.YtffngfjbaimbhaaDoorSf
import Derived.StillTailTactics
import Derived.Outline
namespace Go.Proofs.YtffngfjbaimbhaaDoor
open Go.RowKit
set_option linter.unusedVariables false
set_option linter.unusedSimpArgs false
/-- The words behind k blocks of the bytes. -/
def stK (s : St) (R : List (BitVec 8)) : Nat → St
  | 0 => s
  | k + 1 => proc (stK s R k) ((R.drop (128 * k)).take 128)
def digB (s : St) (R : List (BitVec 8)) : List (BitVec 8) :=
  jk (stK (stK s R (R.length / 128)) (padB (R.drop (128 * (R.length / 128))) (BitVec.ofNat 64 R.length)) (manyB (R.length % 128))) 8
theorem Rd.cut {w : World} {B cap : Nat} {A : Option Addr} {R : List (BitVec 8)} (h : Rd w B A R) (n : Nat) (hl : R.length ≤ cap) : Rd w B (if cap = n then A else A.map (·.add n)) (R.drop n) := fun hp => by
  rw [List.length_drop] at hp
  obtain ⟨b, o, rfl, hb, hc⟩ := h (by omega)
  rw [if_neg (by omega)]
  refine ⟨b, o + n, by simp [Addr.add_mid], hb, fun j hj => ?_⟩
  rw [List.length_drop] at hj
  rw [Nat.add_assoc, hc (n + j) (by omega)]
  simp [List.getD]
theorem arr_at46 (a : Option Addr) (m c : Nat) (h : 128 ≤ m) (w : World) : (Instr.arrayAt 46 (.slice a m c)).run Tryd.prog w = .ok (.pointer a) w := by
  simp [Instr.arrayAt, run_underlying Tryd.underlying46, Nat.not_lt.2 h]
def SG (g b o : Nat) (S : St) (C : List (BitVec 8)) (w : World) : Prop := w.rangeAt g 0 (stv S).toList ∧ w.rangeAt b o (vbs C)
theorem below_drew_l {B : Nat} {w w' : World} (h : Below B w.drew w') : Below B w w' := ⟨h.os, h.tape, h.output, h.size, h.block⟩
structure Gd (w : World) (wr : World) (S : St) : Prop where
  h : Blk wr w.heap.size 38 (stv S).toList
  r : Blk wr (w.heap.size + 1) 24 (vbs Z64)
  bel : Below w.heap.size w wr
theorem Gd.drew {w wr : World} {S : St} (h : Gd w wr S) : Gd w wr.drew S := ⟨h.h, h.r, h.bel.drew⟩
/-- What holds at the head of each round over whole blocks. -/
def RelG (w : World) (s : St) (R : List (BitVec 8)) (v : Value) (wr : World) : Prop :=
  ∃ k A c, 128 * k ≤ R.length ∧ v = .slice A (R.length - 128 * k) c ∧ Rd wr w.heap.size A (R.drop (128 * k)) ∧ R.length - 128 * k ≤ c ∧ c ≤ 9223372036854775807 ∧ Gd w wr (stK s R k)
theorem RelG.next {w w6 : World} {s : St} {R : List (BitVec 8)} {k m b o c1 : Nat} (hk : 128 * (k + 1) ≤ R.length) (hm : m = R.length - 128 * k) (hRd : Rd w6 w.heap.size (some ⟨b, o, none⟩) (R.drop (128 * k))) (hl : (R.drop (128 * k)).length ≤ c1) (hc1 : m ≤ c1) (hc2 : c1 ≤ 9223372036854775807) (hG : Gd w w6 (stK s R (k + 1))) :
    RelG w s R (.slice (if c1 = 128 then some ⟨b, o, none⟩ else some ⟨b, o + 128, none⟩) (m - 128) (c1 - 128)) w6 := by
  have h := hRd.cut 128 hl
  rw [List.drop_drop, show 128 * k + 128 = 128 * (k + 1) by omega] at h
  simp only [Option.map_some, Addr.add_mid] at h
  exact ⟨k + 1, _, c1 - 128, hk, by rw [hm, show R.length - 128 * k - 128 = R.length - 128 * (k + 1) by omega], h, by omega, by omega, hG⟩
def lenOf : Value → Nat | .slice _ n _ => n | _ => 0
theorem Gd.step {w wr wr' : World} {S T : St} (h : Gd w wr S) (hb : Below wr.heap.size wr wr') : Gd w (wr'.setCells w.heap.size 0 (stv T).toList) T :=
  { h := (h.h.below hb h.h.lt).setCells _ rfl
    r := Blk.other_setCells (by omega) _ 0 _ (h.r.below hb h.r.lt)
    bel := below_setCells (Nat.le_refl _) _ 0 _ (h.bel.trans (hb.mono h.bel.size)) }
theorem there38 {w wr : World} {S T : St} (h : Gd w wr S) : wr.there w.heap.size 0 (stv T).size := h.h.there
set_option maxRecDepth 100000 in
set_option maxHeartbeats 4000000 in
theorem digest_any (s : St) (A : Option Addr) (cap : Nat) (R : List (BitVec 8)) (w : World) (hG : Glob w) (hR : Rd w w.heap.size A R) (hcap : R.length ≤ cap) (hc : cap ≤ 9223372036854775807) (hl : R.length < 1152921504606846976) :
    Calls Tryd.prog 16 #[.agg (stv s), .slice A R.length cap] w fun e w' => e = .returned (.agg (vbs (digB s R)).toArray) ∧ Below w.heap.size w w' := by
  have hz := zero24
  have b0 := (Blk.new w 38 (stv s)).alloc (.cells (vbs Z64).toArray 24)
  have b1 := Blk.new (w.alloc (.cells (stv s) 38)) 24 (vbs Z64).toArray
  have hb : Below w.heap.size w ((w.alloc (.cells (stv s) 38)).alloc (.cells (vbs Z64).toArray 24)) := ((Below.refl _ _).alloc (Nat.le_refl _) _).alloc (by simp) _
  rw [show (w.alloc (.cells (stv s) 38)).heap.size = w.heap.size + 1 by simp] at b1
  have HGl := Lib.hid hG
  have HRd0 := Lib.hid (hR.keep hb)
  have HGd0 : Hid (Gd w ((w.alloc (.cells (stv s) 38)).alloc (.cells (vbs Z64).toArray 24)) s) := ⟨b0, b1, hb⟩
  have HL := Lib.hid hl
  have Hcap := Lib.hid hcap
  have Hc := Lib.hid hc
  obtain ⟨n, hn⟩ : ∃ n, n = R.length := ⟨_, rfl⟩
  have HN := Lib.hid hn
  obtain ⟨sv, hsv⟩ : ∃ sv, sv = stv s := ⟨_, rfl⟩
  rw [← hsv] at HRd0 HGd0 ⊢
  rw [← hn]
  clear hG hR hcap hc hl b0 b1 hb hn hsv
  go_enter Tryd.func16, Tryd.ntmps16
  go_upto_region 1 with fail
  generalize (w.alloc (.cells sv 38)).alloc (.cells (vbs Z64).toArray 24) = W0 at HRd0 HGd0 ⊢
  clear hz
  go_wp2_with fail
  go_loopw [5] (fun v wr => RelG w s R v wr) (fun v _ => lenOf v)
  case atStart => exact ⟨0, A, cap, by omega, by rw [HN.out]; rfl, HRd0.out, by have := Hcap.out; omega, Hc.out, HGd0.out⟩
  case round =>
    obtain ⟨k, A1, c1, hk, rfl, hRd, hc1, hc2, hGd⟩ := hrel
    obtain ⟨m, hm⟩ : ∃ m, m = R.length - 128 * k := ⟨_, rfl⟩
    have Hm := Lib.hid hm
    rw [← hm] at hc1 ⊢
    have HRd := Lib.hid hRd
    have HGd := Lib.hid hGd
    have HGw := Lib.hid (HGl.out.below hGd.bel)
    have Hk := Lib.hid hk
    clear HRd0 HGd0 hm hk
    by_cases hlt : 128 ≤ m
    · obtain ⟨b, o, rfl, hbl, hcell⟩ := hRd (by rw [List.length_drop, ← Hm.out]; omega)
      obtain ⟨C, hC⟩ : ∃ C, C = (R.drop (128 * k)).take 128 := ⟨_, rfl⟩
      have hCl : C.length = 128 := by rw [hC, List.length_take, List.length_drop, ← Hm.out]; omega
      have hrg : wr.drew.rangeAt b o (vbs C) := fun j v hv => by
        have hj : j < C.length := by have := (List.getElem?_eq_some_iff.1 hv).1; rwa [vbs_len] at this
        rw [vbs_at hj] at hv
        show wr.cell? ⟨b, o + j, none⟩ = _
        rw [hcell j (by rw [List.length_drop, ← Hm.out]; omega), ← hv, hC]
        simp [List.getD, List.getElem?_take, show j < 128 by omega]
      have hsr : wr.drew.rangeAt w.heap.size 0 (stv (stK s R k)).toList := hGd.drew.h.range
      have hi : (128 : Int) ≤ (m : Int) := by omega
      clear hcell
      go_wp2_with fail
      obtain ⟨sk, hsk⟩ : ∃ sk, sk = stK s R k := ⟨_, rfl⟩
      rw [← hsk] at hsr
      have Hsk := Lib.hid hsk
      have HI46 := Lib.hid (i46 (show (vbs C).length = 128 by rw [vbs_len]; exact hCl))
      have HGd2 : Hid (Gd w wr.drew sk) := by rw [hsk]; exact hGd.drew
      have HGw2 : Hid (Glob wr.drew) := ⟨HGw.out.i, HGw.out.k⟩
      have K22 := Lib.hid (proc_any sk C hCl wr.drew HGw2.out)
      have HC := Lib.hid hC
      have Hbl := Lib.hid hbl
      clear hGd hRd hsk hCl hC hbl
      refine wp_region_but (z := 5) (SG w.heap.size b o sk C) (by kernel_rfl) ?_
      have hS : (SG w.heap.size b o sk C) wr.drew := ⟨hsr, hrg⟩
      refine AnyBut.take (i := 0) (v := .agg (stv sk)) rfl (by kernel_rfl) (by kernel_rfl) (by kernel_rfl) (by kernel_rfl) (fun _ _ _ h => h) ?_ hS ?_
      · exact yieldsIf_load_mid (by rfl) 38 (.tmp 2) rfl w.heap.size 0 rfl (stv sk).toList _ (fun _ h => h.1) Tryd.underlying38 rfl (info38 _)
      try simp only [Act.put, List.setIfInBounds_toArray, List.set_cons_zero, List.set_cons_succ, List.getElem_toArray, List.getElem_cons_zero, List.getElem_cons_succ]
      refine AnyBut.take (i := 1) (v := ?_) rfl (by kernel_rfl) (by kernel_rfl) (by kernel_rfl) (by kernel_rfl) (fun _ _ _ h => h) (Or.inl ⟨by rfl, ?_⟩) hS ?_
      rotate_left
      · (intro wq hq; go_simp; try with_reducible rfl)
      try simp only [Act.put, List.setIfInBounds_toArray, List.set_cons_zero, List.set_cons_succ, List.getElem_toArray, List.getElem_cons_zero, List.getElem_cons_succ]
      refine AnyBut.take (i := 2) (v := .pointer (some ⟨b, o, none⟩)) rfl (by kernel_rfl) (by kernel_rfl) (by kernel_rfl) (by kernel_rfl) (fun _ _ _ h => h) (Or.inl ⟨by rfl, ?_⟩) hS ?_
      · intro wq hq
        go_simp
        rw [arr_at46 _ m c1 hlt wq]
        rfl
      try simp only [Act.put, List.setIfInBounds_toArray, List.set_cons_zero, List.set_cons_succ, List.getElem_toArray, List.getElem_cons_zero, List.getElem_cons_succ]
      refine AnyBut.take (i := 3) (v := .agg (vbs C).toArray) rfl (by kernel_rfl) (by kernel_rfl) (by kernel_rfl) (by kernel_rfl) (fun _ _ _ h => h) ?_ hS ?_
      · exact yieldsIf_load_mid (by rfl) 46 (.tmp 15) rfl b o rfl (vbs C) _ (fun _ h => h.2) Tryd.underlying46 rfl HI46.out
      try simp only [Act.put, List.setIfInBounds_toArray, List.set_cons_zero, List.set_cons_succ, List.getElem_toArray, List.getElem_cons_zero, List.getElem_cons_succ]
      refine AnyBut.gone (i := 4) (by kernel_rfl) rfl (by rfl) (fun K hK => ?_)
      go_simp
      (with_reducible refine K22.out.mono ?_)
      rintro e w5 ⟨rfl, hb5⟩
      dsimp only
      have Hb5 := Lib.hid hb5
      have hS5 : SG w.heap.size b o sk C w5 := ⟨fun j v hv => by rw [hb5.cell (p := ⟨w.heap.size, 0 + j, none⟩) HGd2.out.h.lt]; exact hS.1 j v hv, fun j v hv => by rw [hb5.cell (p := ⟨b, o + j, none⟩) (Nat.lt_of_lt_of_le Hbl.out HGd2.out.bel.size)]; exact hS.2 j v hv⟩
      have HTh := Lib.hid (there38 (T := proc sk C) (wr := w5) (S := sk) ⟨HGd2.out.h.below hb5 HGd2.out.h.lt, HGd2.out.r.below hb5 HGd2.out.r.lt, HGd2.out.bel.trans (hb5.mono HGd2.out.bel.size)⟩)
      clear hb5
      refine hK _ _ (fun _ => hS5) ?_
      clear hK K
      try simp only [Act.put, List.setIfInBounds_toArray, List.set_cons_zero, List.set_cons_succ, List.getElem_toArray, List.getElem_cons_zero, List.getElem_cons_succ]
      refine AnyBut.gone (i := 5) (by kernel_rfl) rfl (by rfl) (fun K hK => ?_)
      refine wp_store_mid 38 (.tmp 2) (.tmp 17) rfl w.heap.size 0 (stv (proc sk C)) rfl rfl HTh.out (info38 _) (stv_one _) (hK _ _ (fun h => absurd rfl h) ?_)
      clear hK K
      refine AnyBut.done (by kernel_rfl) ?_ _
      dsimp only [Exit.then]
      have HGd5 := Lib.hid (HGd2.out.step (T := proc sk C) Hb5.out)
      have HRd5 : Hid (Rd (w5.setCells w.heap.size 0 (stv (proc sk C)).toList) w.heap.size (some ⟨b, o, none⟩) (R.drop (128 * k))) := HRd.out.keep (below_setCells (Nat.le_refl _) _ 0 _ ((below_drew_l Hb5.out).mono HGd2.out.bel.size))
      generalize w5.setCells w.heap.size 0 (stv (proc sk C)).toList = w6 at HGd5 HRd5 ⊢
      clear hS hS5 HTh K22
      go_wp2
      go_roundw
      case rel => exact RelG.next (by have := Hk.out; have := Hm.out; omega) (by have := Hm.out; omega) HRd5.out (by rw [List.length_drop, ← Hm.out]; exact hc1) hc1 hc2 (by rw [stK, ← Hsk.out, ← HC.out]; exact HGd5.out)
      case measure => show m - 128 < m; omega
    · have hk' : k = R.length / 128 := by have := Hk.out; have := Hm.out; omega
      have hi : ¬ (128 : Int) ≤ (m : Int) := by omega
      obtain ⟨R1, hR1⟩ : ∃ R1, R1 = R.drop (128 * k) := ⟨_, rfl⟩
      have hml : m = R1.length := by rw [hR1, List.length_drop]; exact Hm.out
      rw [← hR1] at hRd
      have hlen : ((n : Nat) : Int) = V (BitVec.ofNat 64 n) := by unfold V; rw [BitVec.toNat_ofNat]; have := HL.out; have := HN.out; omega
      have hwl : IntKind.u64.wrap ((n : Nat) : Int) = V (BitVec.ofNat 64 n) := by rw [IntKind.wrap_u64, ← hlen]; have := HL.out; have := HN.out; omega
      obtain ⟨P, hP⟩ : ∃ P, P = padB R1 (BitVec.ofNat 64 n) := ⟨_, rfl⟩
      have hPl : P.length = 256 := by rw [hP]; exact padB_len _ _ (by omega)
      obtain ⟨mb, hmb⟩ : ∃ mb, mb = manyB m := ⟨_, rfl⟩
      have hmb2 : mb ≤ 2 := by rw [hmb]; unfold manyB; split <;> omega
      have K23 : Hid (Calls Tryd.prog 23 #[.slice A1 m c1, .int .u64 (V (BitVec.ofNat 64 n))] wr fun e w' => e = .returned (.tuple #[.agg (vbs P).toArray, .int .i64 mb]) ∧ Below wr.heap.size wr w') := by
        rw [hmb, hml, hP]
        exact padded_any A1 c1 R1 _ wr (fun hp => by obtain ⟨b, o, e, h1, h2⟩ := hRd hp; exact ⟨b, o, e, Nat.lt_of_lt_of_le h1 hGd.bel.size, h2⟩) (by omega)
      have hz := zero47
      have Hwl := Lib.hid hwl
      have HP := Lib.hid hP
      have HMb := Lib.hid hmb
      have HR1 := Lib.hid hR1
      have Hk' := Lib.hid hk'
      have HPv : Hid ((vbs P).length = 256) := show (vbs P).length = 256 by rw [vbs_len]; exact hPl
      have HI47 := Lib.hid (i47 HPv.out)
      have HPl := Lib.hid hPl
      clear hlen hP hmb hR1 hk' hPl hRd hml HRd HGw Hk
      go_upto_region 6 with (first
        | (go_at_call 23; (with_reducible refine K23.out.mono ?_); rintro e w7 ⟨rfl, hb7⟩; have Hb7 := Lib.hid hb7; have HTh7 : Hid ((w7.alloc (.cells (vbs Z256).toArray 47)).there w7.heap.size 0 256) := (Blk.new w7 47 (vbs Z256).toArray).there; clear hb7; dsimp only)
        | (with_reducible refine wpList_store_mid rfl 47 (.tmp 6) (.tmp 26) rfl w7.heap.size 0 (vbs P).toArray rfl rfl (there_arr HTh7.out HPv.out) (info_arr HI47.out) (all_oneCell_toArray (vbs_one _)) ?_))
      have hB7 : Below w7.heap.size w7 ((w7.alloc (Obj.cells (vbs Z256).toArray 47)).setCells w7.heap.size 0 (vbs P)) := below_setCells (Nat.le_refl _) _ 0 _ ((Below.refl _ _).alloc (Nat.le_refl _) _)
      have hBlk7 : Blk ((w7.alloc (Obj.cells (vbs Z256).toArray 47)).setCells w7.heap.size 0 (vbs P)) w7.heap.size 47 (vbs P) := (Blk.new w7 47 (vbs Z256).toArray).setCells (vbs P) (by rw [HPv.out]; rfl)
      have hB1 : Below wr.heap.size wr ((w7.alloc (Obj.cells (vbs Z256).toArray 47)).setCells w7.heap.size 0 (vbs P)) := Hb7.out.trans (hB7.mono Hb7.out.size)
      have hG7 : Gd w ((w7.alloc (Obj.cells (vbs Z256).toArray 47)).setCells w7.heap.size 0 (vbs P)) (stK s R k) := ⟨hGd.h.below hB1 hGd.h.lt, hGd.r.below hB1 hGd.r.lt, hGd.bel.trans (hB1.mono hGd.bel.size)⟩
      have hg7 : w.heap.size + 1 < w7.heap.size := Nat.lt_of_lt_of_le hGd.r.lt Hb7.out.size
      generalize w7.heap.size = g7 at hG7 hBlk7 hg7 ⊢
      generalize (w7.alloc (Obj.cells (vbs Z256).toArray 47)).setCells g7 0 (vbs P) = w8 at hG7 hBlk7 ⊢
      obtain ⟨S1, hS1⟩ : ∃ S1, S1 = stK s R k := ⟨_, rfl⟩
      rw [← hS1] at hG7
      have HS1 := Lib.hid hS1
      have HG7 := Lib.hid hG7
      have HBlk7 := Lib.hid hBlk7
      have Hg7 := Lib.hid hg7
      clear hS1 hG7 hBlk7 hg7 hB7 hB1 hz hwl K23 HTh7 hGd HGd Hb7
      obtain ⟨wo, rfl⟩ : ∃ wo : World, wo = wr := ⟨_, rfl⟩
      go_wp2_with fail
      go_loopw [29] (fun i wr => ∃ j : Nat, j ≤ mb ∧ i = .int .i64 j ∧ Gd w wr (stK S1 P j) ∧ Blk wr g7 47 (vbs P)) (fun i _ => mb - (intOf i).toNat)
      case atStart => exact ⟨0, Nat.zero_le _, rfl, HG7.out, HBlk7.out⟩
      case round =>
        obtain ⟨j, hj, rfl, hGd, hBk⟩ := hrel
        have HGd := Lib.hid hGd
        have HBk := Lib.hid hBk
        clear HG7 HBlk7
        by_cases hltj : j < mb
        · obtain ⟨sk, hsk⟩ : ∃ sk, sk = stK S1 P j := ⟨_, rfl⟩
          obtain ⟨C, hC⟩ : ∃ C, C = (P.drop (128 * j)).take 128 := ⟨_, rfl⟩
          have hCl : C.length = 128 := by rw [hC, List.length_take, List.length_drop, HPl.out]; omega
          have hsr : wr.drew.rangeAt w.heap.size 0 (stv sk).toList := by rw [hsk]; exact hGd.drew.h.range
          have hrg : wr.drew.rangeAt g7 (128 * j) (vbs C) := fun i v hv => by
            have hi : i < C.length := by have := (List.getElem?_eq_some_iff.1 hv).1; rwa [vbs_len] at this
            rw [vbs_at hi] at hv
            show wr.cell? ⟨g7, 128 * j + i, none⟩ = _
            rw [hBk.cell (vbs_at (l := P) (j := 128 * j + i) (by rw [HPl.out]; omega)), ← hv, hC]
            simp [List.getD, List.getElem?_take, show i < 128 by omega]
          have Hsk := Lib.hid hsk
          have HC := Lib.hid hC
          have HI46 := Lib.hid (i46 (show (vbs C).length = 128 by rw [vbs_len]; exact hCl))
          have HGd2 : Hid (Gd w wr.drew sk) := by rw [hsk]; exact hGd.drew
          have HGw2 : Hid (Glob wr.drew) := ⟨(HGl.out.below hGd.bel).i, (HGl.out.below hGd.bel).k⟩
          have K22 := Lib.hid (proc_any sk C hCl wr.drew HGw2.out)
          have Hglt : Hid (g7 < wr.heap.size) := hBk.lt
          have hmul : IntKind.i64.wrap (128 * (j : Int)) = ((128 * j : Nat) : Int) := by rw [IntWalk.i64_in _ (by omega)]; simp
          have hsl : ∀ W, (Instr.sliceAt 47 (.pointer (some ⟨g7, 0, none⟩)) (some (.int .i64 (128 * (j : Int)))) none none).run Tryd.prog W = .ok (.slice (some ⟨g7, 128 * j, none⟩) (256 - 128 * j) (256 - 128 * j)) W := fun W => by
            have h := slice47 g7 (128 * j) (by omega) W
            rwa [show ((128 * j : Nat) : Int) = 128 * (j : Int) by omega] at h
          have hge : 128 ≤ 256 - 128 * j := by omega
          have j0 : (0 : Int) ≤ (j : Int) := by omega
          clear hGd hBk hsk hC hCl
          go_upto_region 9 with fail
          refine wp_region_but (z := 7) (SG w.heap.size g7 (128 * j) sk C) (by kernel_rfl) ?_
          have hS : (SG w.heap.size g7 (128 * j) sk C) wr.drew := ⟨hsr, hrg⟩
          refine AnyBut.take (i := 0) (v := .agg (stv sk)) rfl (by kernel_rfl) (by kernel_rfl) (by kernel_rfl) (by kernel_rfl) (fun _ _ _ h => h) ?_ hS ?_
          · exact yieldsIf_load_mid (by rfl) 38 (.tmp 2) rfl w.heap.size 0 rfl (stv sk).toList _ (fun _ h => h.1) Tryd.underlying38 rfl (info38 _)
          try simp only [Act.put, List.setIfInBounds_toArray, List.set_cons_zero, List.set_cons_succ, List.getElem_toArray, List.getElem_cons_zero, List.getElem_cons_succ]
          refine AnyBut.take (i := 1) (v := ?_) rfl (by kernel_rfl) (by kernel_rfl) (by kernel_rfl) (by kernel_rfl) (fun _ _ _ h => h) (Or.inl ⟨by rfl, ?_⟩) hS ?_
          rotate_left
          · (intro wq hq; go_simp; try with_reducible rfl)
          try simp only [Act.put, List.setIfInBounds_toArray, List.set_cons_zero, List.set_cons_succ, List.getElem_toArray, List.getElem_cons_zero, List.getElem_cons_succ]
          refine AnyBut.take (i := 2) (v := .int .i64 ((128 * j : Nat) : Int)) rfl (by kernel_rfl) (by kernel_rfl) (by kernel_rfl) (by kernel_rfl) (fun _ _ _ h => h) (Or.inl ⟨by rfl, ?_⟩) hS ?_
          · intro wq hq
            go_simp
            skip
          try simp only [Act.put, List.setIfInBounds_toArray, List.set_cons_zero, List.set_cons_succ, List.getElem_toArray, List.getElem_cons_zero, List.getElem_cons_succ]
          refine AnyBut.take (i := 3) (v := .slice (some ⟨g7, 128 * j, none⟩) (256 - 128 * j) (256 - 128 * j)) rfl (by kernel_rfl) (by kernel_rfl) (by kernel_rfl) (by kernel_rfl) (fun _ _ _ h => h) (Or.inl ⟨by rfl, ?_⟩) hS ?_
          · intro wq hq
            go_simp
            try (rw [hsl wq])
            try rfl
          try simp only [Act.put, List.setIfInBounds_toArray, List.set_cons_zero, List.set_cons_succ, List.getElem_toArray, List.getElem_cons_zero, List.getElem_cons_succ]
          refine AnyBut.take (i := 4) (v := .pointer (some ⟨g7, 128 * j, none⟩)) rfl (by kernel_rfl) (by kernel_rfl) (by kernel_rfl) (by kernel_rfl) (fun _ _ _ h => h) (Or.inl ⟨by rfl, ?_⟩) hS ?_
          · intro wq hq
            go_simp
            try (rw [arr_at46 _ _ _ hge wq])
            try rfl
          try simp only [Act.put, List.setIfInBounds_toArray, List.set_cons_zero, List.set_cons_succ, List.getElem_toArray, List.getElem_cons_zero, List.getElem_cons_succ]
          refine AnyBut.take (i := 5) (v := .agg (vbs C).toArray) rfl (by kernel_rfl) (by kernel_rfl) (by kernel_rfl) (by kernel_rfl) (fun _ _ _ h => h) ?_ hS ?_
          · exact yieldsIf_load_mid (by rfl) 46 (.tmp 36) rfl g7 (128 * j) rfl (vbs C) _ (fun _ h => h.2) Tryd.underlying46 rfl HI46.out
          try simp only [Act.put, List.setIfInBounds_toArray, List.set_cons_zero, List.set_cons_succ, List.getElem_toArray, List.getElem_cons_zero, List.getElem_cons_succ]
          refine AnyBut.gone (i := 6) (by kernel_rfl) rfl (by rfl) (fun K hK => ?_)
          go_simp
          (with_reducible refine K22.out.mono ?_)
          rintro e w5 ⟨rfl, hb5⟩
          dsimp only
          have Hb5 := Lib.hid hb5
          have hS5 : SG w.heap.size g7 (128 * j) sk C w5 := ⟨fun i v hv => by rw [hb5.cell (p := ⟨w.heap.size, 0 + i, none⟩) HGd2.out.h.lt]; exact hS.1 i v hv, fun i v hv => by rw [hb5.cell (p := ⟨g7, 128 * j + i, none⟩) Hglt.out]; exact hS.2 i v hv⟩
          have HTh := Lib.hid (there38 (T := proc sk C) (wr := w5) (S := sk) ⟨HGd2.out.h.below hb5 HGd2.out.h.lt, HGd2.out.r.below hb5 HGd2.out.r.lt, HGd2.out.bel.trans (hb5.mono HGd2.out.bel.size)⟩)
          clear hb5
          refine hK _ _ (fun _ => hS5) ?_
          clear hK K
          try simp only [Act.put, List.setIfInBounds_toArray, List.set_cons_zero, List.set_cons_succ, List.getElem_toArray, List.getElem_cons_zero, List.getElem_cons_succ]
          refine AnyBut.gone (i := 7) (by kernel_rfl) rfl (by rfl) (fun K hK => ?_)
          refine wp_store_mid 38 (.tmp 2) (.tmp 38) rfl w.heap.size 0 (stv (proc sk C)) rfl rfl HTh.out (info38 _) (stv_one _) (hK _ _ (fun h => absurd rfl h) ?_)
          clear hK K
          refine AnyBut.done (by kernel_rfl) ?_ _
          try dsimp only [Exit.then]
          have HGd5 := Lib.hid (HGd2.out.step (T := proc sk C) Hb5.out)
          have HBk5 : Hid (Blk (w5.setCells w.heap.size 0 (stv (proc sk C)).toList) g7 47 (vbs P)) := Blk.other_setCells (by have := Hg7.out; omega) _ 0 _ (HBk.out.below (below_drew_l Hb5.out) Hglt.out)
          generalize w5.setCells w.heap.size 0 (stv (proc sk C)).toList = w6 at HGd5 HBk5 ⊢
          clear hS hS5 HTh K22 hmul hsl
          go_wp2
          go_roundw
          case rel => exact ⟨j + 1, by omega, by go_num, by rw [stK, ← Hsk.out, ← HC.out]; exact HGd5.out, HBk5.out⟩
          case measure => simp [intOf]; omega
        · obtain rfl : j = mb := by omega
          obtain ⟨sk, hsk⟩ : ∃ sk, sk = stK S1 P j := ⟨_, rfl⟩
          have hD : digB s R = jk sk 8 := by
            have e1 : R.length % 128 = m := by have := Hm.out; have := Hk'.out; omega
            unfold digB
            rw [← Hk'.out, e1, ← HMb.out, ← HR1.out, ← HN.out, ← HP.out, ← HS1.out, hsk]
          have HD := Lib.hid hD
          have K24 := Lib.hid (fun W => joined_any sk W)
          have hgs := hGd
          rw [← hsk] at hgs
          have HGs := Lib.hid hgs
          have HRg := Lib.hid hgs.h.range
          have HI38 := Lib.hid (info38 sk)
          have HJl : Hid ((vbs (jk sk 8)).length = 64) := show (vbs (jk sk 8)).length = 64 by rw [vbs_len, jk_len]
          have HI24 := Lib.hid (i24 HJl.out)
          obtain ⟨J, hJ⟩ : ∃ J, J = jk sk 8 := ⟨_, rfl⟩
          rw [← hJ] at HD HJl HI24
          obtain ⟨sv2, hsv2⟩ : ∃ sv2, sv2 = stv sk := ⟨_, rfl⟩
          have K24' : Hid (Calls Tryd.prog 24 #[.agg sv2] wr fun e w' => e = .returned (.agg (vbs J).toArray) ∧ Below wr.heap.size wr w') := by rw [hJ, hsv2]; exact K24.out wr
          rw [← hsv2] at HRg HI38
          clear hGd hBk hsk hD hgs K24 hJ hsv2
          go_wp2_with (first
            | (with_reducible refine wpList_load_mid rfl 38 (.tmp 2) rfl w.heap.size 0 rfl sv2.toList _ HRg.out Tryd.underlying38 rfl HI38.out ?_)
            | (go_at_call 24; (with_reducible refine K24'.out.mono ?_); rintro e w9 ⟨rfl, hb9⟩; have Hb9 := Lib.hid hb9; have HTh9 : Hid (w9.there (w.heap.size + 1) 0 64) := (HGs.out.r.below hb9 HGs.out.r.lt).there; clear hb9; dsimp only)
            | (with_reducible refine wpList_store_mid rfl 24 (.tmp 4) (.tmp 41) rfl (w.heap.size + 1) 0 (vbs J).toArray rfl rfl (there_arr HTh9.out HJl.out) (info_arr HI24.out) (all_oneCell_toArray (vbs_one _)) ?_))
          have hS2 := (HGs.out.r.below Hb9.out HGs.out.r.lt).setCells (vbs J) (by rw [HJl.out]; rfl)
          have hSb := below_setCells (show w.heap.size ≤ w.heap.size + 1 by omega) (vbs J) 0 w9 (HGs.out.bel.trans (Hb9.out.mono HGs.out.bel.size))
          have hlv := run_loadVar_mid (P := Tryd.prog) (w9.setCells (w.heap.size + 1) 0 (vbs J)) (w.heap.size + 1) 0 24 _ _ hS2.range Tryd.underlying24 rfl HI24.out
          exact bodyPost_ret (v := .agg (vbs J).toArray) (by simp [results, Tryd.results16, asAddr, Act.put, hlv]) rfl ⟨by rw [HD.out], hSb⟩
end Go.Proofs.YtffngfjbaimbhaaDoor
