/- What the document's own Root returns: the bits that the search tells. -/
import Derived.Test.YtffngfjbaimbhaaDoorUc
import Derived.Outline
namespace Go.Proofs.YtffngfjbaimbhaaDoor
open Go.RowKit
set_option linter.unusedVariables false
set_option linter.unusedSimpArgs false
set_option maxRecDepth 100000
theorem val_single (n p : Nat) : val ((List.replicate (n + 1) 0).set n p) = p * 65536 ^ n := by
  have h := val_put (List.replicate (n + 1) 0) n p (by simp)
  have e : (List.replicate (n + 1) 0).getD n 0 = 0 := by simp [List.getD]
  rw [e, val_zeros] at h
  omega
theorem dig_single (n m p : Nat) (hp : p < 65536) : Dig ((List.replicate n 0).set m p) := Dig.set (fun d hd => by rw [List.eq_of_mem_replicate hd]; omega) m p hp
theorem num_of_blk {w : World} {g n c : Nat} {X : List Nat} (h : Blk w g 37 (vqs X)) (hn : X.length = n) (hd : Dig X) : Num w (.slice (some ⟨g, 0, none⟩) n c) X :=
  ⟨some ⟨g, 0, none⟩, c, by rw [hn], fun _ => ⟨g, 0, rfl, h.lt, fun j hj => by rw [Nat.zero_add]; exact h.cell (vqs_at hj)⟩, hd⟩
theorem Num.set {w : World} {g n c x : Nat} {X : List Nat} {v : Value} (h : Num w (.slice (some ⟨g, 0, none⟩) n c) X) (hg : x ≠ g) (j : Nat) : Num (w.setCell ⟨x, j, none⟩ v) (.slice (some ⟨g, 0, none⟩) n c) X := by
  obtain ⟨A, c', e, hr, hd⟩ := h
  refine ⟨A, c', e, fun hp => ?_, hd⟩
  obtain ⟨b, o, eA, hlt, hc⟩ := hr hp
  rw [eA] at e
  cases e
  refine ⟨g, 0, eA, by simpa [World.setCell] using hlt, fun k hk => ?_⟩
  rw [World.cell?_setCell_other]
  · exact hc k hk
  · intro h; cases h; exact hg rfl
theorem all_dig {X : List Nat} (h : X.all (fun d => decide (d < 65536)) = true) : Dig X := fun d hd => by simpa using List.all_eq_true.1 h d hd
theorem run_step (lim k b : Nat) (X R Z : List Nat) (t : Nat) (h : run lim k (b + 1) X = some R) (ht : t = 2 ^ (b % 16)) (hZ : Z = X.set (b / 16) (X.getD (b / 16) 0 + t)) :
    X.length = 6 ∧ Dig Z ∧ (lim < val Z ^ k → run lim k b X = some R) ∧ (¬ lim < val Z ^ k → run lim k b Z = some R) := by
  subst ht hZ
  simp only [run] at h
  split at h
  · rename_i hc
    refine ⟨hc.1, all_dig hc.2, fun hl => ?_, fun hl => ?_⟩
    · rw [if_pos hl] at h; exact h
    · rw [if_neg hl] at h; exact h
  · cases h
theorem set_back (X : List Nat) (j t : Nat) (h : j < X.length) : (X.set j (X.getD j 0 + t)).set j ((X.set j (X.getD j 0 + t)).getD j 0 - t) = X := by
  rw [getD_eq _ _ _ h, List.set_set, Nat.add_sub_cancel]
  apply List.ext_getElem?
  intro i
  by_cases e : j = i
  · subst e; simp [List.getD, h]
  · simp [List.getElem?_set, e]
set_option maxHeartbeats 8000000 in
theorem root_any (p k x : Nat) (hp : p < 65536) (hk : k ≤ 3) (hk1 : 1 ≤ k) (hx : rootN p k = some x) (w : World) :
    Calls Tryd.prog 21 #[.int .u64 (p : Int), .int .i64 (k : Int)] w fun e w' => e = .returned (.int .u64 (x : Int)) ∧ Below w.heap.size w w' := by
  obtain ⟨f, hf⟩ : ∃ f, f = 4 * k := ⟨_, rfl⟩
  obtain ⟨n, hn⟩ : ∃ n, n = f + 1 := ⟨_, rfl⟩
  obtain ⟨lim, hlim⟩ : ∃ l, l = p * 65536 ^ f := ⟨_, rfl⟩
  have hx' : (run lim k 80 start6).map (fun X => X.getD 0 0 + X.getD 1 0 * 65536 + X.getD 2 0 * 4294967296 + X.getD 3 0 * 281474976710656) = some x := by rw [hlim, hf]; exact hx
  obtain ⟨R, hR, hRx⟩ : ∃ R, run lim k 80 start6 = some R ∧ R.getD 0 0 + R.getD 1 0 * 65536 + R.getD 2 0 * 4294967296 + R.getD 3 0 * 281474976710656 = x := by
    cases hr : run lim k 80 start6 with
    | none => rw [hr] at hx'; cases hx'
    | some R => rw [hr] at hx'; exact ⟨R, rfl, by simpa using hx'⟩
  have q1 : 4 * (k : Int) = (f : Int) := by omega
  have q2 : IntKind.i64.wrap (f : Int) = (f : Int) := IntWalk.i64_in _ (by omega)
  have q3 : (f : Int) + 1 = (n : Int) := by omega
  have q4 : IntKind.i64.wrap (n : Int) = (n : Int) := IntWalk.i64_in _ (by omega)
  have f0 : (0 : Int) ≤ (f : Int) := by omega
  have f1 : (f : Int) < (n : Int) := by omega
  have hm := madeQ w n (by omega)
  have hB0 : Blk (w.alloc (.cells (vqs (List.replicate n 0)).toArray 37)) w.heap.size 37 (vqs (List.replicate n 0)) := by
    have := Blk.new w 37 (vqs (List.replicate n 0)).toArray
    rwa [List.toList_toArray] at this
  have hb0 : Below w.heap.size w (w.alloc (.cells (vqs (List.replicate n 0)).toArray 37)) := (Below.refl _ _).alloc (Nat.le_refl _) _
  have c0 : (w.alloc (.cells (vqs (List.replicate n 0)).toArray 37)).cell? ⟨w.heap.size, f, none⟩ = some (.int .u64 0) := by
    have := hB0.cell (vqs_at (l := List.replicate n 0) (j := f) (by simp; omega))
    rw [this, show (List.replicate n 0).getD f 0 = 0 by simp [List.getD, show f < n by omega]]
    rfl
  have fr0 := hB0.free f
  have HR := Lib.hid hR
  have HRx := Lib.hid hRx
  have HB0 := Lib.hid hB0
  have Hb0 := Lib.hid hb0
  have HW : Hid (lim = val ((List.replicate n 0).set f p) ∧ Dig ((List.replicate n 0).set f p) ∧ ((List.replicate n 0).set f p).length = n) :=
    show _ ∧ _ ∧ _ from ⟨by rw [hn, val_single, hlim], dig_single n f p hp, by simp⟩
  have Hf := Lib.hid hf
  have Hn := Lib.hid hn
  clear hx hx' hR hRx hlim hf hn hB0 hb0
  go_enter Tryd.func21, Tryd.ntmps21
  go_upto_region 2 with fail
  generalize w.alloc (.cells (vqs (List.replicate n 0)).toArray 37) = w1 at HB0 Hb0 c0 fr0 ⊢
  obtain ⟨g, hg⟩ : ∃ g, g = w.heap.size := ⟨_, rfl⟩
  have Hg := Lib.hid hg
  rw [← hg] at HB0 c0 fr0 ⊢
  clear hg hm
  go_upto_region 3 with fail
  have hB1 : Blk (w1.setCell ⟨g, f, none⟩ (.int .u64 (p : Int))) g 37 (vqs ((List.replicate n 0).set f p)) := by
    have := HB0.out.set f (.int .u64 (p : Int)); rwa [vqs_set] at this
  have hb1 : Below w.heap.size w (w1.setCell ⟨g, f, none⟩ (.int .u64 (p : Int))) := by
    refine Below.setCell Hb0.out ?_ _
    show w.heap.size ≤ g
    rw [Hg.out]
    exact Nat.le_refl _
  generalize w1.setCell ⟨g, f, none⟩ (.int .u64 (p : Int)) = w2 at hB1 hb1 ⊢
  clear c0 fr0 HB0 Hb0
  have hW2 : Num w2 (.slice (some ⟨g, 0, none⟩) n n) ((List.replicate n 0).set f p) := num_of_blk hB1 HW.out.2.2 HW.out.2.1
  have hm6 : (Instr.makeSlice 33 (.int .i64 6) (.int .i64 6)).run Tryd.prog w2 = .ok (.slice (some ⟨w2.heap.size, 0, none⟩) 6 6) (w2.alloc (.cells (vqs start6).toArray 37)) := madeQ w2 6 (by omega)
  have hX3 : Blk (w2.alloc (.cells (vqs start6).toArray 37)) w2.heap.size 37 (vqs start6) := by
    have := Blk.new w2 37 (vqs start6).toArray
    rwa [List.toList_toArray] at this
  have hxg : w2.heap.size ≠ g := by have := hB1.lt; omega
  have hb3 : Below w.heap.size w (w2.alloc (.cells (vqs start6).toArray 37)) := hb1.alloc hb1.size _
  have hW3 : Num (w2.alloc (.cells (vqs start6).toArray 37)) (.slice (some ⟨g, 0, none⟩) n n) ((List.replicate n 0).set f p) := hW2.below ((Below.refl _ _).alloc (Nat.le_refl _) _)
  have hxw : w.heap.size ≤ w2.heap.size := hb1.size
  have HX3 := Lib.hid hX3
  have Hb3 := Lib.hid hb3
  have HW3 := Lib.hid hW3
  clear hB1 hb1 hW2 hX3 hb3 hW3
  go_upto_region 4 with fail
  generalize w2.alloc (.cells (vqs start6).toArray 37) = w3 at HX3 Hb3 HW3 ⊢
  generalize w2.heap.size = xb at HX3 hxg hxw ⊢
  clear hm6
  obtain ⟨Wd, hWd⟩ : ∃ Wd, Wd = (List.replicate n 0).set f p := ⟨_, rfl⟩
  rw [← hWd] at HW3 HW
  clear hWd q1 q2 q3 q4 f0 f1
  go_wp2_with fail
  go_loopw [7] (fun bv wq => ∃ (b : Nat) (X : List Nat), b ≤ 80 ∧ bv = .int .i64 ((b : Int) - 1) ∧ Blk wq xb 37 (vqs X) ∧ X.length = 6 ∧ Dig X ∧ run lim k b X = some R ∧ Num wq (.slice (some ⟨g, 0, none⟩) n n) Wd ∧ Below w.heap.size w wq) (fun bv _ => (intOf bv + 1).toNat)
  case atStart => exact ⟨80, start6, Nat.le_refl _, rfl, HX3.out, rfl, fun d hd => by simp [start6] at hd; omega, HR.out, HW3.out, Hb3.out⟩
  case round =>
    obtain ⟨b, X, hb, rfl, hB, hXl, hXd, hrun, hW, hbel⟩ := hrel
    clear HR HX3 HW3 Hb3
    cases b with
    | zero =>
      have e0 : (((0 : Nat) : Int) - 1) = -1 := rfl
      rw [e0]
      have hXR : X = R := by simp only [run] at hrun; exact Option.some.inj hrun
      subst hXR
      obtain ⟨x0, h0⟩ : ∃ a, a = X.getD 0 0 := ⟨_, rfl⟩
      obtain ⟨x1, h1⟩ : ∃ a, a = X.getD 1 0 := ⟨_, rfl⟩
      obtain ⟨x2, h2⟩ : ∃ a, a = X.getD 2 0 := ⟨_, rfl⟩
      obtain ⟨x3, h3⟩ : ∃ a, a = X.getD 3 0 := ⟨_, rfl⟩
      have l0 : x0 < 65536 := by rw [h0]; exact hXd.at 0
      have l1 : x1 < 65536 := by rw [h1]; exact hXd.at 1
      have l2 : x2 < 65536 := by rw [h2]; exact hXd.at 2
      have l3 : x3 < 65536 := by rw [h3]; exact hXd.at 3
      have c0 : wr.cell? ⟨xb, 0, none⟩ = some (.int .u64 ((x0 : Nat) : Int)) := by rw [h0]; exact hB.cell (vqs_at (by omega))
      have c1 : wr.cell? ⟨xb, 1, none⟩ = some (.int .u64 ((x1 : Nat) : Int)) := by rw [h1]; exact hB.cell (vqs_at (by omega))
      have c2 : wr.cell? ⟨xb, 2, none⟩ = some (.int .u64 ((x2 : Nat) : Int)) := by rw [h2]; exact hB.cell (vqs_at (by omega))
      have c3 : wr.cell? ⟨xb, 3, none⟩ = some (.int .u64 ((x3 : Nat) : Int)) := by rw [h3]; exact hB.cell (vqs_at (by omega))
      have hxx : x0 + x1 * 65536 + x2 * 4294967296 + x3 * 281474976710656 = x := by rw [h0, h1, h2, h3]; exact HRx.out
      obtain ⟨y1, g1⟩ : ∃ a, a = x1 * 65536 := ⟨_, rfl⟩
      obtain ⟨y2, g2⟩ : ∃ a, a = x2 * 4294967296 := ⟨_, rfl⟩
      obtain ⟨y3, g3⟩ : ∃ a, a = x3 * 281474976710656 := ⟨_, rfl⟩
      obtain ⟨z1, k1⟩ : ∃ a, a = x0 + y1 := ⟨_, rfl⟩
      obtain ⟨z2, k2⟩ : ∃ a, a = z1 + y2 := ⟨_, rfl⟩
      have hz : z2 + y3 = x := by omega
      have s1 : IntKind.u64.wrap ((x1 : Int) * 2 ^ 16) = (y1 : Int) := by rw [IntKind.wrap_u64]; omega
      have s2 : IntKind.u64.wrap ((x2 : Int) * 2 ^ 32) = (y2 : Int) := by rw [IntKind.wrap_u64]; omega
      have s3 : IntKind.u64.wrap ((x3 : Int) * 2 ^ 48) = (y3 : Int) := by rw [IntKind.wrap_u64]; omega
      have t1 : IntKind.u64.wrap ((x1 : Int) * 65536) = (y1 : Int) := by rw [IntKind.wrap_u64]; omega
      have t2 : IntKind.u64.wrap ((x2 : Int) * 4294967296) = (y2 : Int) := by rw [IntKind.wrap_u64]; omega
      have t3 : IntKind.u64.wrap ((x3 : Int) * 281474976710656) = (y3 : Int) := by rw [IntKind.wrap_u64]; omega
      have a1 : IntKind.u64.wrap ((x0 : Int) + (y1 : Int)) = (z1 : Int) := by rw [IntKind.wrap_u64]; omega
      have a2 : IntKind.u64.wrap ((z1 : Int) + (y2 : Int)) = (z2 : Int) := by rw [IntKind.wrap_u64]; omega
      have a3 : IntKind.u64.wrap ((z2 : Int) + (y3 : Int)) = (x : Int) := by rw [IntKind.wrap_u64]; omega
      have HBL := Lib.hid hbel
      clear h0 h1 h2 h3 hxx g1 g2 g3 k1 k2 hz hB hXl hXd hrun hW hbel
      go_wp2_with fail
      go_quiet (fail)
      go_wp2_with fail
      go_ret
      exact ⟨rfl, below_dN HBL.out _⟩
    | succ b =>
      have eb : (((b + 1 : Nat) : Int) - 1) = (b : Int) := by omega
      rw [eb]
      obtain ⟨j, hj⟩ : ∃ j, j = b / 16 := ⟨_, rfl⟩
      obtain ⟨r, hr⟩ : ∃ r, r = b % 16 := ⟨_, rfl⟩
      obtain ⟨t, ht⟩ : ∃ t, t = 2 ^ r := ⟨_, rfl⟩
      obtain ⟨d, hd⟩ : ∃ d, d = X.getD j 0 := ⟨_, rfl⟩
      obtain ⟨d1, hd1⟩ : ∃ d1, d1 = d + t := ⟨_, rfl⟩
      obtain ⟨Z, hZ⟩ : ∃ Z, Z = X.set j d1 := ⟨_, rfl⟩
      have hj6 : j < 6 := by omega
      have hr16 : r < 16 := by omega
      have ht16 : t ≤ 32768 := by rw [ht]; exact Nat.pow_le_pow_right (n := 2) (by omega) (show r ≤ 15 by omega)
      have hst := run_step lim k b X R Z t hrun (by rw [ht, hr]) (by rw [hZ, hd1, hd, hj])
      have hd16 : d < 65536 := by rw [hd]; exact hXd.at j
      have hd116 : d1 < 65536 := by
        have := hst.2.1.at j
        rw [hZ, getD_eq _ _ _ (by omega)] at this
        exact this
      have c0 : wr.cell? ⟨xb, j, none⟩ = some (.int .u64 ((d : Nat) : Int)) := by rw [hd]; exact hB.cell (vqs_at (by omega))
      have fr := hB.free j
      have q1 : (b : Int).tdiv 16 = (j : Int) := by rw [Int.tdiv_eq_ediv_of_nonneg (Int.natCast_nonneg _)]; omega
      have q2 : (b : Int) / 16 = (j : Int) := by omega
      have q3 : (b : Int).tmod 16 = (r : Int) := by rw [Int.tmod_eq_emod_of_nonneg (Int.natCast_nonneg _)]; omega
      have q4 : (b : Int) % 16 = (r : Int) := by omega
      have j0 : (0 : Int) ≤ (j : Int) := by omega
      have j1 : (j : Int) < 6 := by omega
      have b0 : (0 : Int) ≤ (b : Int) := by omega
      have hmin : min r 64 = r := by omega
      have hpw : (2 : Int) ^ r = (t : Int) := by rw [ht]; simp
      have hwt : IntKind.u64.wrap (t : Int) = (t : Int) := by rw [IntKind.wrap_u64]; omega
      have hwr : IntKind.u64.wrap (r : Int) = (r : Int) := by rw [IntKind.wrap_u64]; omega
      have hsum : (d : Int) + (t : Int) = (d1 : Int) := by omega
      have hsub : (d1 : Int) - (t : Int) = (d : Int) := by omega
      have hB2 : Blk (wr.setCell ⟨xb, j, none⟩ (.int .u64 ((d1 : Nat) : Int))) xb 37 (vqs Z) := by
        have := hB.set j (.int .u64 ((d1 : Nat) : Int)); rw [vqs_set] at this; rw [hZ]; exact this
      have hZl : Z.length = 6 := by rw [hZ, List.length_set]; exact hXl
      have hW2 := hW.set (v := .int .u64 ((d1 : Nat) : Int)) hxg j
      have hbel2 : Below w.heap.size w (wr.setCell ⟨xb, j, none⟩ (.int .u64 ((d1 : Nat) : Int))) := Below.setCell hbel hxw _
      have hback : Z.set j d = X := by
        have := set_back X j t (by omega)
        rw [← hd, ← hd1, ← hZ] at this
        rw [show Z.getD j 0 = d1 by rw [hZ, getD_eq _ _ _ (by omega)], show d1 - t = d by omega] at this
        exact this
      have HZj : Hid (Z.getD j 0 = d1) := show Z.getD j 0 = d1 by rw [hZ, getD_eq _ _ _ (by omega)]
      have HX := Lib.hid (⟨hXl, hXd, hst, hback⟩ : X.length = 6 ∧ Dig X ∧ (X.length = 6 ∧ Dig Z ∧ (lim < val Z ^ k → run lim k b X = some R) ∧ (¬ lim < val Z ^ k → run lim k b Z = some R)) ∧ Z.set j d = X)
      have HB2 := Lib.hid hB2
      have HZl := Lib.hid hZl
      have HW2 := Lib.hid hW2
      have Hbel2 := Lib.hid hbel2
      clear hj hr ht hd hd1 hZ hrun hB hXl hXd hst hB2 hZl hW hW2 hbel hbel2 hback
      go_upto_region 8 with fail
      generalize wr.setCell ⟨xb, j, none⟩ (.int .u64 ((d1 : Nat) : Int)) = w4 at HB2 HW2 Hbel2 ⊢
      clear c0 fr
      have HN4 := Lib.hid (num_of_blk (c := 6) HB2.out HZl.out HX.out.2.2.1.2.1)
      go_wp2_with fail
      go_loopw [8, 9] (fun pv iv wq => ∃ (i : Nat) (Y : List Nat), 1 ≤ i ∧ i ≤ k ∧ iv = .int .i64 (i : Int) ∧ Num wq pv Y ∧ val Y = val Z ^ i ∧ Y.length = 6 * i ∧ Num wq (.slice (some ⟨xb, 0, none⟩) 6 6) Z ∧ Blk wq xb 37 (vqs Z) ∧ Num wq (.slice (some ⟨g, 0, none⟩) n n) Wd ∧ Below w.heap.size w wq) (fun _ iv _ => k - (intOf iv).toNat)
      case atStart => exact ⟨1, Z, by omega, hk1, rfl, HN4.out, by simp, by rw [HZl.out], HN4.out, HB2.out, HW2.out, Hbel2.out⟩
      case round =>
        clear HB2 HW2 Hbel2 HN4
        obtain ⟨i, Y, hi1, hik, rfl, hY, hYv, hYl, hN, hB, hW, hbel⟩ := hrel
        have HYv := Lib.hid hYv
        have HYl := Lib.hid hYl
        have HB := Lib.hid hB
        clear hYv hYl hB
        by_cases hlt : i < k
        · have hlt' : (i : Int) < (k : Int) := by omega
          have K28 := Lib.hid (times_p Y Z _ _ _ hY hN _ _ _ _ HYv.out rfl HYl.out HZl.out (by omega) (by omega))
          clear hY
          go_wp2_with (go_at_call 28; (with_reducible refine K28.out.mono ?_); rintro e w5 ⟨v5, Y5, rfl, hn5, hv5, hl5, hb5⟩; have Hv5 := Lib.hid hv5; have Hl5 := Lib.hid hl5; clear hv5 hl5; dsimp only)
          go_roundw
          case rel => exact ⟨i + 1, Y5, by omega, by omega, by go_num, hn5, by rw [Hv5.out, Nat.pow_succ], by rw [Hl5.out]; omega, hN.below hb5, HB.out.below hb5 HB.out.lt, hW.below hb5, hbel.trans (hb5.mono hbel.size)⟩
          case measure => simp [intOf]; omega
        · obtain rfl : i = k := by omega
          have hlt' : ¬ (i : Int) < (i : Int) := by omega
          by_cases hc : lim < val Z ^ i
          · have K29 := Lib.hid (above_p Y Wd _ (.slice (some ⟨g, 0, none⟩) n n) _ hY hW _ _ _ _ true HYv.out HW.out.1.symm HYl.out HW.out.2.2 (by omega) (by have := Hn.out; have := Hf.out; omega) (by simpa using hc))
            have HC := Lib.hid hc
            have c0 : wr.cell? ⟨xb, j, none⟩ = some (.int .u64 ((d1 : Nat) : Int)) := by rw [← HZj.out]; exact HB.out.cell (vqs_at (by rw [HZl.out]; omega))
            have fr := HB.out.free j
            have HW4 := Lib.hid hW
            have Hbel4 := Lib.hid hbel
            clear hc hY hN hW hbel
            go_wp2_with (go_at_call 29; (with_reducible refine K29.out.mono ?_); rintro e wz ⟨rfl, rfl⟩; dsimp only)
            go_roundw
            case rel =>
              obtain ⟨u1, u2, ⟨u3, u4, u5, u6⟩, u7⟩ := HX.out
              refine ⟨b, X, by omega, rfl, ?_, u1, u2, u5 HC.out, HW4.out.set hxg j, Below.setCell Hbel4.out hxw _⟩
              have := HB.out.set j (.int .u64 ((d : Nat) : Int)); rw [vqs_set, u7] at this; exact this
            case measure => simp [intOf]
          · have K29 := Lib.hid (above_p Y Wd _ (.slice (some ⟨g, 0, none⟩) n n) _ hY hW _ _ _ _ false HYv.out HW.out.1.symm HYl.out HW.out.2.2 (by omega) (by have := Hn.out; have := Hf.out; omega) (by simpa using hc))
            have HC := Lib.hid hc
            clear hc hY hN
            go_wp2_with (go_at_call 29; (with_reducible refine K29.out.mono ?_); rintro e wz ⟨rfl, rfl⟩; dsimp only)
            go_roundw
            case rel =>
              obtain ⟨u1, u2, ⟨u3, u4, u5, u6⟩, u7⟩ := HX.out
              exact ⟨b, Z, by omega, rfl, HB.out, HZl.out, u4, u6 HC.out, hW, hbel⟩
            case measure => simp [intOf]
end Go.Proofs.YtffngfjbaimbhaaDoor
