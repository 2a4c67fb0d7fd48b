/- The beginning of SHA-512/256 that sha512.made makes. -/
import Derived.Test.YtffngfjbaimbhaaDoorSh
import Derived.Outline
namespace Go.Proofs.YtffngfjbaimbhaaDoor
open Go.RowKit
set_option linter.unusedVariables false
set_option linter.unusedSimpArgs false
def mask : BitVec 64 := 11936128518282651045
/-- The first words of SHA-512, k of them changed. -/
def xk : Nat → List (BitVec 64)
  | 0 => stl ini
  | k + 1 => (xk k).set k ((xk k).getD k 0 ^^^ mask)
theorem xk_len : ∀ k, (xk k).length = 8
  | 0 => rfl
  | k + 1 => by rw [xk, List.length_set, xk_len k]
def xini : St := ⟨ini.a ^^^ mask, ini.b ^^^ mask, ini.c ^^^ mask, ini.d ^^^ mask, ini.e ^^^ mask, ini.f ^^^ mask, ini.g ^^^ mask, ini.h ^^^ mask⟩
theorem xk_end : vws (xk 8) = (stv xini).toList := rfl
def label : List (BitVec 8) := [83, 72, 65, 45, 53, 49, 50, 47, 50, 53, 54]
/-- k words of the digest D. -/
def wk (D : List (BitVec 8)) : Nat → List (BitVec 64)
  | 0 => stl zSt
  | k + 1 => (wk D k).set k (wd ((D.drop (8 * k)).take 8))
theorem wk_len (D : List (BitVec 8)) : ∀ k, (wk D k).length = 8
  | 0 => rfl
  | k + 1 => by rw [wk, List.length_set, wk_len D k]
def st256 (D : List (BitVec 8)) : St := ⟨wd ((D.drop 0).take 8), wd ((D.drop 8).take 8), wd ((D.drop 16).take 8), wd ((D.drop 24).take 8), wd ((D.drop 32).take 8), wd ((D.drop 40).take 8), wd ((D.drop 48).take 8), wd ((D.drop 56).take 8)⟩
theorem wk_end (D : List (BitVec 8)) : vws (wk D 8) = (stv (st256 D)).toList := rfl
/-- The first words of SHA-512/256. -/
def ini256 : St := st256 (digB xini label)
structure Me (w : World) (G H : Nat) (D : List (BitVec 8)) (k : Nat) (wr : World) : Prop where
  x : Blk wr H 38 (vws (wk D k))
  d : Blk wr G 24 (vbs D)
  r : Blk wr w.heap.size 38 (stv zSt).toList
  bel : Below w.heap.size w wr
  gh : G < H
  wg : w.heap.size < G
theorem Me.step {w wr : World} {G H k : Nat} {D : List (BitVec 8)} (h : Me w G H D k wr) {x : BitVec 64} (hx : x = wd ((D.drop (8 * k)).take 8)) : Me w G H D (k + 1) (wr.setCell ⟨H, k, none⟩ (.int .u64 (V x))) :=
  have hg := h.gh
  have hw := h.wg
  { x := by have := h.x.set k (.int .u64 (V x)); rw [vws_set, hx] at this; rw [hx]; exact this
    d := h.d.other (a := ⟨H, k, none⟩) (by show G ≠ H; omega) _
    r := h.r.other (a := ⟨H, k, none⟩) (by show w.heap.size ≠ H; omega) _
    bel := h.bel.setCell (by show w.heap.size ≤ H; omega) _
    gh := hg
    wg := hw }
theorem lab_new (w : World) (m : Nat × Nat) : Rd (w.alloc (Obj.cells #[.int .u8 83, .int .u8 72, .int .u8 65, .int .u8 45, .int .u8 53, .int .u8 49, .int .u8 50, .int .u8 47, .int .u8 50, .int .u8 53, .int .u8 54] 5 m)) (w.alloc (Obj.cells #[.int .u8 83, .int .u8 72, .int .u8 65, .int .u8 45, .int .u8 53, .int .u8 49, .int .u8 50, .int .u8 47, .int .u8 50, .int .u8 53, .int .u8 54] 5 m)).heap.size (some ⟨w.heap.size, 0, none⟩) label := fun _ =>
  ⟨w.heap.size, 0, rfl, by simp, fun j hj => cell_new rfl (by
    have : j = 0 ∨ j = 1 ∨ j = 2 ∨ j = 3 ∨ j = 4 ∨ j = 5 ∨ j = 6 ∨ j = 7 ∨ j = 8 ∨ j = 9 ∨ j = 10 := by simp [label] at hj; omega
    rcases this with rfl | rfl | rfl | rfl | rfl | rfl | rfl | rfl | rfl | rfl | rfl <;> rfl)⟩
structure Md (w : World) (k : Nat) (wr : World) : Prop where
  x : Blk wr (w.heap.size + 1) 38 (vws (xk k))
  r : Blk wr w.heap.size 38 (stv zSt).toList
  bel : Below w.heap.size w wr
theorem Md.step {w wr : World} {k : Nat} (h : Md w k wr) {x : BitVec 64} (hx : x = (xk k).getD k 0 ^^^ mask) : Md w (k + 1) (wr.setCell ⟨w.heap.size + 1, k, none⟩ (.int .u64 (V x))) :=
  { x := by have := h.x.set k (.int .u64 (V x)); rw [vws_set, hx] at this; rw [hx]; exact this
    r := h.r.other (a := ⟨w.heap.size + 1, k, none⟩) (by show w.heap.size ≠ w.heap.size + 1; omega) _
    bel := h.bel.setCell (by show w.heap.size ≤ w.heap.size + 1; omega) _ }
set_option maxRecDepth 100000 in
set_option maxHeartbeats 2000000 in
theorem made_any (w : World) (hG : Glob w) : Calls Tryd.prog 19 #[] w fun e w' => e = .returned (.agg (stv ini256)) ∧ Below w.heap.size w w' := by
  have hz := zero38
  have b0 := (Blk.new w 38 (stv zSt)).alloc (.cells (stv zSt) 38)
  have b1 := Blk.new (w.alloc (.cells (stv zSt) 38)) 38 (stv zSt)
  have hb : Below w.heap.size w ((w.alloc (.cells (stv zSt) 38)).alloc (.cells (stv zSt) 38)) := ((Below.refl _ _).alloc (Nat.le_refl _) _).alloc (by simp) _
  rw [show (w.alloc (.cells (stv zSt) 38)).heap.size = w.heap.size + 1 by simp] at b1
  have hb1 : Below w.heap.size w (w.alloc (.cells (stv zSt) 38)) := (Below.refl _ _).alloc (Nat.le_refl _) _
  have HRg := Lib.hid (hG.below hb1).i
  have HI38 := Lib.hid (info38 ini)
  have HGl := Lib.hid hG
  have HTh : Hid (((w.alloc (.cells (stv zSt) 38)).alloc (.cells (stv zSt) 38)).there (w.heap.size + 1) 0 (stv ini).size) := b1.there
  have HM : Hid (Md w 0 (((w.alloc (.cells (stv zSt) 38)).alloc (.cells (stv zSt) 38)).setCells (w.heap.size + 1) 0 (stv ini).toList)) :=
    ⟨b1.setCells (stv ini).toList rfl, Blk.other_setCells (by omega) _ 0 _ b0, below_setCells (by omega) _ 0 _ hb⟩
  obtain ⟨sv, hsv⟩ : ∃ sv, sv = stv ini := ⟨_, rfl⟩
  have HOne : Hid (sv.all (·.oneCell') = true) := by rw [hsv]; exact stv_one ini
  have HI38' : Hid ((Tryd.prog.info? 38).map (·.size) = some sv.size) := by rw [hsv]; exact info38 ini
  rw [← hsv] at HRg HI38 HTh HM
  clear hG b0 b1 hb hb1 hsv
  go_enter Tryd.func19, Tryd.ntmps19
  go_upto_region 2 with (first
    | (with_reducible refine wpList_load_mid rfl 38 (.global 0) rfl 0 0 rfl sv.toList _ HRg.out Tryd.underlying38 rfl HI38.out ?_)
    | (with_reducible refine wpList_store_mid rfl 38 (.tmp 1) (.tmp 6) rfl (w.heap.size + 1) 0 sv rfl rfl HTh.out HI38'.out HOne.out ?_))
  generalize ((w.alloc (.cells (stv zSt) 38)).alloc (.cells (stv zSt) 38)).setCells (w.heap.size + 1) 0 sv.toList = W0 at HM ⊢
  clear HRg HTh
  go_wp2_with fail
  go_loopw [7] (fun i wr => ∃ k : Nat, k ≤ 8 ∧ i = .int .i64 k ∧ Md w k wr) (fun i _ => 8 - (intOf i).toNat)
  case atStart => exact ⟨0, Nat.zero_le _, rfl, HM.out⟩
  case round =>
    obtain ⟨k, hk, rfl, hM⟩ := hrel
    have HMr := Lib.hid hM
    clear HM
    by_cases hlt : k < 8
    · have c0 := hM.x.cell (vws_at (l := xk k) (j := k) (by rw [xk_len]; exact hlt))
      have f0 := hM.x.free k
      obtain ⟨x, hx⟩ : ∃ x, x = (xk k).getD k 0 := ⟨_, rfl⟩
      rw [← hx] at c0
      have Hx := Lib.hid hx
      have hxor : bits .xor .u64 (V x) (11936128518282651045 : Int) = V (x ^^^ mask) := V_xor x mask
      have k0 : (0 : Int) ≤ (k : Int) := by omega
      have k1 : (k : Int) < 8 := by omega
      clear hM hx
      go_wp2
      go_roundw
      case rel => exact ⟨k + 1, by omega, by go_num, HMr.out.step (by rw [← Hx.out])⟩
      case measure => simp [intOf]; omega
    · obtain rfl : k = 8 := by omega
      have hx8 := hM.x
      rw [xk_end] at hx8
      have kc := fun (w : World) (C : Array Value) (n c : Nat) => Lib.run_convert_bytes_const (P := Tryd.prog) w 22 5 C n c Tryd.underlying22 Tryd.underlying5
      have hbL : Below wr.heap.size wr (wr.alloc (.cells #[.int .u8 83, .int .u8 72, .int .u8 65, .int .u8 45, .int .u8 53, .int .u8 49, .int .u8 50, .int .u8 47, .int .u8 50, .int .u8 53, .int .u8 54] 5 (11, 12))) := (Below.refl _ _).alloc (Nat.le_refl _) _
      have K16 : Hid (Calls Tryd.prog 16 #[.agg (stv xini), .slice (some ⟨wr.heap.size, 0, none⟩) 11 11] (wr.alloc (.cells #[.int .u8 83, .int .u8 72, .int .u8 65, .int .u8 45, .int .u8 53, .int .u8 49, .int .u8 50, .int .u8 47, .int .u8 50, .int .u8 53, .int .u8 54] 5 (11, 12))) fun e w' => e = .returned (.agg (vbs (digB xini label)).toArray) ∧ Below (wr.alloc (.cells #[.int .u8 83, .int .u8 72, .int .u8 65, .int .u8 45, .int .u8 53, .int .u8 49, .int .u8 50, .int .u8 47, .int .u8 50, .int .u8 53, .int .u8 54] 5 (11, 12))).heap.size (wr.alloc (.cells #[.int .u8 83, .int .u8 72, .int .u8 65, .int .u8 45, .int .u8 53, .int .u8 49, .int .u8 50, .int .u8 47, .int .u8 50, .int .u8 53, .int .u8 54] 5 (11, 12))) w') :=
        digest_any xini (some ⟨wr.heap.size, 0, none⟩) 11 label _ ((HGl.out.below hM.bel).below hbL) (lab_new wr (11, 12)) (by decide) (by decide) (by decide)
      obtain ⟨D, hD⟩ : ∃ D, D = digB xini label := ⟨_, rfl⟩
      have hDl : (vbs D).length = 64 := by rw [vbs_len, hD]; exact digB_len _ _
      have hE : ini256 = st256 D := by rw [hD]; rfl
      rw [← hD] at K16
      have HE := Lib.hid hE
      have HRg2 := Lib.hid hx8.range
      have HI := Lib.hid (info38 xini)
      obtain ⟨sx, hsx⟩ : ∃ sx, sx = stv xini := ⟨_, rfl⟩
      rw [← hsx] at HRg2 HI K16
      have HDl := Lib.hid hDl
      have HI24 := Lib.hid (i24 hDl)
      have hz24 := zero24
      have HbL := Lib.hid hbL
      clear hM hx8 hbL hD hDl hE hsx
      go_upto_region 8 with (first
        | (with_reducible refine wpList_load_mid rfl 38 (.tmp 1) rfl (w.heap.size + 1) 0 rfl sx.toList _ HRg2.out Tryd.underlying38 rfl HI.out ?_)
        | (go_at_call 16; (with_reducible refine K16.out.mono ?_); rintro e w9 ⟨rfl, hb9⟩; have Hb9 := Lib.hid hb9; have HTh9 : Hid ((w9.alloc (.cells (vbs Z64).toArray 24)).there w9.heap.size 0 64) := (Blk.new w9 24 (vbs Z64).toArray).there; clear hb9; dsimp only)
        | (with_reducible refine wpList_store_mid rfl 24 (.tmp 3) (.tmp 19) rfl w9.heap.size 0 (vbs D).toArray rfl rfl (there_arr HTh9.out HDl.out) (info_arr HI24.out) (all_oneCell_toArray (vbs_one _)) ?_))
      have hc9 : Below wr.heap.size wr w9 := HbL.out.trans (Hb9.out.mono HbL.out.size)
      have hbw : Below w.heap.size w w9 := HMr.out.bel.trans (hc9.mono HMr.out.bel.size)
      have hlt9 : w.heap.size < w9.heap.size := Nat.lt_of_lt_of_le HMr.out.r.lt hc9.size
      have hX9 : Blk w9 w.heap.size 38 (stv zSt).toList := HMr.out.r.below hc9 HMr.out.r.lt
      have hDF : Blk ((w9.alloc (.cells (vbs Z64).toArray 24)).setCells w9.heap.size 0 (vbs D)) w9.heap.size 24 (vbs D) := (Blk.new w9 24 (vbs Z64).toArray).setCells (vbs D) (by rw [HDl.out]; rfl)
      have hXF : Blk ((w9.alloc (.cells (vbs Z64).toArray 24)).setCells w9.heap.size 0 (vbs D)) w.heap.size 38 (stv zSt).toList := Blk.other_setCells (by omega) _ 0 _ (hX9.alloc _)
      have hBF : Below w.heap.size w ((w9.alloc (.cells (vbs Z64).toArray 24)).setCells w9.heap.size 0 (vbs D)) := below_setCells (by omega) _ 0 _ (hbw.alloc (by omega) _)
      generalize (w9.alloc (.cells (vbs Z64).toArray 24)).setCells w9.heap.size 0 (vbs D) = WF at hDF hXF hBF ⊢
      generalize w9.heap.size = G at hlt9 hDF ⊢
      clear hX9 hbw hc9 Hb9 HTh9 HMr HRg2 HI K16 HbL kc hz24
      have hGH : G < WF.heap.size := hDF.lt
      have hM0 : Me w G WF.heap.size D 0 (WF.alloc (.cells (stv zSt) 38)) := ⟨Blk.new WF 38 (stv zSt), hDF.alloc _, hXF.alloc _, hBF.alloc (by omega) _, by omega, hlt9⟩
      go_upto_region 9 with fail
      generalize WF.alloc (.cells (stv zSt) 38) = W1 at hM0 ⊢
      generalize WF.heap.size = H at hM0 ⊢
      have HM0 := Lib.hid hM0
      have HDn := Lib.hid (show D.length = 64 by rw [← vbs_len]; exact HDl.out)
      clear hM0 hGH hDF hXF hBF hlt9 hz
      go_wp2_with fail
      go_loopw [20] (fun i wr => ∃ k : Nat, k ≤ 8 ∧ i = .int .i64 k ∧ Me w G H D k wr) (fun i _ => 8 - (intOf i).toNat)
      case atStart => exact ⟨0, Nat.zero_le _, rfl, HM0.out⟩
      case round =>
        obtain ⟨k, hk, rfl, hM⟩ := hrel
        have HMr := Lib.hid hM
        clear HM0
        by_cases hlt : k < 8
        · have hsl : (Instr.sliceAt 24 (.pointer (some ⟨G, 0, none⟩)) (some (.int .i64 (8 * (k : Int)))) none none).run Tryd.prog wr = .ok (.slice (some ⟨G, 8 * k, none⟩) (64 - 8 * k) (64 - 8 * k)) wr := by
            have := slice24 G (8 * k) (by omega) wr
            rwa [show ((8 * k : Nat) : Int) = 8 * (k : Int) by omega] at this
          have hDl : D.length = 64 := HDn.out
          have f0 := hM.x.free k
          have K27 : Hid (Calls Tryd.prog 27 #[.slice (some ⟨G, 8 * k, none⟩) (64 - 8 * k) (64 - 8 * k)] wr fun e w' => e = .returned (.int .u64 (V (wd ((D.drop (8 * k)).take 8)))) ∧ wr = w') :=
            word_any ((D.drop (8 * k)).take 8) G (8 * k) _ _ wr (by rw [List.length_take, List.length_drop]; omega) (by omega) (by omega) (fun j hj => by
              rw [show ((D.drop (8 * k)).take 8).getD j 0 = D.getD (8 * k + j) 0 by simp [List.getElem?_take, hj]]
              exact hM.d.cell (vbs_at (by omega)))
          have c0 := hM.x.cell (vws_at (l := wk D k) (j := k) (by rw [wk_len]; exact hlt))
          obtain ⟨x, hx⟩ : ∃ x, x = wd ((D.drop (8 * k)).take 8) := ⟨_, rfl⟩
          have Hx := Lib.hid hx
          rw [← hx] at K27
          have k0 : (0 : Int) ≤ (k : Int) := by omega
          have k1 : (k : Int) < 8 := by omega
          clear hM hx hDl
          go_wp2_with (go_at_call 27; (with_reducible refine K27.out.mono ?_); rintro e w' ⟨rfl, rfl⟩; dsimp only)
          go_roundw
          case rel => exact ⟨k + 1, by omega, by go_num, HMr.out.step Hx.out⟩
          case measure => simp [intOf]; omega
        · obtain rfl : k = 8 := by omega
          have hXe := hM.x
          rw [wk_end] at hXe
          have HRg := Lib.hid hXe.range
          have HI := Lib.hid (info38 (st256 D))
          have HIs : Hid ((Tryd.prog.info? 38).map (·.size) = some (stv (st256 D)).size) := info38 (st256 D)
          have HO : Hid ((stv (st256 D)).all (·.oneCell') = true) := stv_one (st256 D)
          have HTh : Hid (wr.there w.heap.size 0 (stv (st256 D)).size) := hM.r.there
          have Hr := Lib.hid hM.r
          have Hb := Lib.hid hM.bel
          obtain ⟨sy, hsy⟩ : ∃ sy, sy = stv (st256 D) := ⟨_, rfl⟩
          have HSl : Hid (sy.toList.length = (stv zSt).toList.length) := by rw [hsy]; rfl
          have HSy := Lib.hid hsy
          rw [← hsy] at HRg HI HIs HO HTh
          clear hM hXe hsy HMr
          go_wp2_with (first
            | (with_reducible refine wpList_load_mid rfl 38 (.tmp 4) rfl H 0 rfl sy.toList _ HRg.out Tryd.underlying38 rfl HI.out ?_)
            | (with_reducible refine wpList_store_mid rfl 38 (.tmp 0) (.tmp 30) rfl w.heap.size 0 sy rfl rfl HTh.out HIs.out HO.out ?_))
          have hS2 := Hr.out.setCells sy.toList HSl.out
          have hSb := below_setCells (Nat.le_refl w.heap.size) sy.toList 0 wr Hb.out
          have hlv := run_loadVar_mid (P := Tryd.prog) (wr.setCells w.heap.size 0 sy.toList) w.heap.size 0 38 _ _ hS2.range Tryd.underlying38 rfl HI.out
          rw [Array.toArray_toList] at hlv
          exact bodyPost_ret (v := .agg sy) (by simp [results, Tryd.results19, asAddr, Act.put, hlv]) rfl ⟨by rw [HE.out, HSy.out], hSb⟩
end Go.Proofs.YtffngfjbaimbhaaDoor
