/- What the document's own Change returns. -/
import Derived.Test.YtihbmahjdmfjpaaDoorXf
import Derived.Deep.RegionHeld3
import Derived.Deep.DeepCutAuto
namespace Go.Proofs.YtihbmahjdmfjpaaDoor
set_option maxRecDepth 100000
open Go.RowKit
set_option linter.unusedVariables false
set_option linter.unusedSimpArgs false
/-- The state of the loop: l reads as the letters, made holds the numbers. -/
structure CR (w : World) (C : List (BitVec 8)) (k : Nat) (T : St) (vm : Value) (lb lo : Nat) (wq : World) : Prop where
  bel : Below w.heap.size w wq
  made : OU wq w.heap.size vm (mkR C k)
  apart : ∀ g, vm.ownBlock = some g → g ≠ lb
  lt : lb < wq.heap.size
  l : ∀ j, j < 8 → wq.cell? ⟨lb, lo + j, none⟩ = some (.int .u32 (U ((stl T).getD j 0)))
theorem rd_up {w : World} {B B' : Nat} {A : Option Addr} {R : List (BitVec 8)} (h : Rd w B A R) (hB : B ≤ B') : Rd w B' A R := fun hp => by
  obtain ⟨b, o, e, hlt, hc⟩ := h hp
  exact ⟨b, o, e, Nat.lt_of_lt_of_le hlt hB, hc⟩
theorem CR.drewN {w : World} {C : List (BitVec 8)} {k : Nat} {T : St} {vm : Value} {lb lo : Nat} {wq : World} (h : CR w C k T vm lb lo wq) (q : Nat) : CR w C k T vm lb lo (wq.drewN q) :=
  ⟨⟨h.bel.os, h.bel.tape, h.bel.output, h.bel.size, h.bel.block⟩, h.made, h.apart, h.lt, h.l⟩
theorem rnumber_any (C : List (BitVec 8)) (hC : C.length = 64) (Ac : Option Addr) (cc : Nat) (wq : World) (hR : Rd wq wq.heap.size Ac C) (k : Nat) (hk : k < 64) (vm : Value) (B : Nat) (hO : OU wq B vm (mkR C k)) :
    Calls Tryd.prog 68 #[.slice Ac 64 cc, vm, .int .i64 k] wq fun e w' => e = .returned (.int .u32 (U (Wd C k))) ∧ ∃ q, w' = wq.drewN q := by
  by_cases h : k < 16
  · rw [Wd_lo C k h]
    exact (rnumber_lo C Ac 64 cc vm k wq (by omega) hC.symm hR h).mono fun e w' hp => ⟨hp.1, 0, by rw [← hp.2]; rfl⟩
  · obtain ⟨A, cap, rfl, hR2, _⟩ := hO.rd
    have := rnumber_hi (mkR C k) A (mkR C k).length cap (.slice Ac 64 cc) k wq rfl hR2 (by omega) (by rw [mkR_len]; omega) (by omega)
    rw [Wd_hi C k (by omega)]
    rwa [mkR_get C k _ (by omega), mkR_get C k _ (by omega), mkR_get C k _ (by omega), mkR_get C k _ (by omega)] at this
theorem OU.eight {w : World} {B : Nat} {v : Value} {M : List (BitVec 32)} (h : OU w B v M) (hM : M.length = 8) : ∃ g cap, v = .slice (some ⟨g, 0, none⟩) 8 cap ∧ B ≤ g ∧ g < w.heap.size ∧ 8 ≤ cap ∧ cap ≤ 9223372036854775807 ∧ ∀ j, j < 8 → w.cell? ⟨g, 0 + j, none⟩ = some (.int .u32 (U (M.getD j 0))) := by
  rcases h.2 with ⟨rfl, h0⟩ | ⟨g, cap, cur, rfl, hb, hg, hn, hm, hcs, ht⟩
  · omega
  · refine ⟨g, cap, by rw [hM], hb, (Array.getElem?_eq_some_iff.1 hg).1, by omega, by unfold maxLen at hm; omega, fun j hj => ?_⟩
    have h1 := World.ownsRow.cells h (g := g) rfl j (.int .u32 (U (M.getD j 0))) (vus_at (by omega))
    rwa [Addr.add_mid] at h1
theorem owns_built47 (w : World) (x0 x1 x2 x3 x4 : BitVec 32) : (w.alloc (.cells #[.int .u32 (U x0), .int .u32 (U x1), .int .u32 (U x2), .int .u32 (U x3), .int .u32 (U x4)] 40)).ownsRow w.heap.size 40 1 (.slice (some ⟨w.heap.size, 0, none⟩) 5 5) 5 (vus [x0, x1, x2, x3, x4]) :=
  ⟨rfl, .inr ⟨w.heap.size, 5, _, rfl, Nat.le_refl _, heap_alloc_new w _, Nat.le_refl _, by unfold maxLen; omega, rfl, rfl⟩⟩
theorem mono_owns {w : World} {base base' : Nat} {e : TypeId} {size : Nat} {v : Value} {n : Nat} {xs : List Value} (h : w.ownsRow base e size v n xs) (hb : base' ≤ base) : w.ownsRow base' e size v n xs :=
  ⟨h.1, h.2.imp id fun ⟨g, cap, cur, h1, h2, h3⟩ => ⟨g, cap, cur, h1, Nat.le_trans hb h2, h3⟩⟩
theorem stl_rnd (T : St) (K x : BitVec 32) : stl (rnd T K x) = [T.h + (T.e.rotateRight 6 ^^^ T.e.rotateRight 11 ^^^ T.e.rotateRight 25) + ((T.e &&& T.f) + (~~~ T.e &&& T.g)) + K + x + ((T.a.rotateRight 2 ^^^ T.a.rotateRight 13 ^^^ T.a.rotateRight 22) + (T.a &&& T.b ||| T.b &&& T.c ||| T.c &&& T.a)), T.a, T.b, T.c,
    T.d + (T.h + (T.e.rotateRight 6 ^^^ T.e.rotateRight 11 ^^^ T.e.rotateRight 25) + ((T.e &&& T.f) + (~~~ T.e &&& T.g)) + K + x), T.e, T.f, T.g] := by
  unfold stl rnd
  rw [trn3, trn3, ch_or, maj_or]
set_option maxRecDepth 100000 in
set_option maxHeartbeats 8000000 in
theorem rchange_walk (C : List (BitVec 8)) (hC : C.length = 64) (s : St) (sb so c0 : Nat) (Ac : Option Addr) (cc : Nat) (kb ko kc : Nat) (w : World)
    (hs : sb < w.heap.size) (hs8 : 8 ≤ c0) (hsm : c0 ≤ 9223372036854775807) (hsc : ∀ j, j < 8 → w.cell? ⟨sb, so + j, none⟩ = some (.int .u32 (U ((stl s).getD j 0))))
    (hR : Rd w w.heap.size Ac C) (hk : kb < w.heap.size) (hkc : ∀ j, j < 64 → w.cell? ⟨kb, ko + j, none⟩ = some (.int .u32 (U (KK.getD j 0)))) :
    Calls Tryd.prog 61 #[.slice (some ⟨sb, so, none⟩) 8 c0, .slice Ac 64 cc, .slice (some ⟨kb, ko, none⟩) 64 kc] w fun e w' =>
      ∃ v, e = .returned v ∧ OU w' w.heap.size v (stl (addSt s (stR C s 64))) ∧ Below w.heap.size w w' := by
  have HS := Lib.hid hsc
  have HK := Lib.hid hkc
  have HC := Lib.hid hR
  have HCl := Lib.hid hC
  have HST : Hid (CR w C 0 s (.slice none 0 0) sb so w) := ⟨Below.refl _ _, OU.nil _ _, fun g h => (by cases h), hs, hsc⟩
  have HCR := Lib.hid (⟨8, c0, hs8, hsm⟩ : ∃ a b : Nat, 8 ≤ b ∧ b ≤ 9223372036854775807)
  clear hsc hkc hR
  go_enter Tryd.func61, Tryd.ntmps61
  go_wp2_with fail
  go_loopw [7, 8, 9] (fun vm vl i wq => ∃ (k lb lo cap : Nat), k ≤ 64 ∧ i = .int .i64 k ∧ vl = .slice (some ⟨lb, lo, none⟩) 8 cap ∧ 8 ≤ cap ∧ cap ≤ 9223372036854775807 ∧ CR w C k (stR C s k) vm lb lo wq) (fun _ _ i _ => 64 - (intOf i).toNat)
  case atStart => exact ⟨0, sb, so, c0, Nat.zero_le _, rfl, rfl, hs8, hsm, HST.out⟩
  case round =>
    obtain ⟨k, lb, lo, cap, hk64, rfl, rfl, hcap, hcm, hX⟩ := hrel
    have HX := Lib.hid hX
    clear HST HCR hX
    by_cases hlt : k < 64
    · have k1 : (k : Int) < 64 := by omega
      have hM := rnumber_any C HCl.out Ac cc wr (rd_up (HC.out.keep HX.out.bel) HX.out.bel.size) k hlt u7 w.heap.size HX.out.made
      have HM := Lib.hid hM
      clear hM
      go_upto_region 7 with (go_at_call 68; (with_reducible refine HM.out.mono ?_); rintro e w1 ⟨rfl, q, rfl⟩; dsimp only)
      have HX2 := Lib.hid (HX.out.drewN q)
      clear HX HM
      generalize wr.drewN q = w1 at HX2 ⊢
      obtain ⟨x, hx⟩ : ∃ x, x = Wd C k := ⟨_, rfl⟩
      have Hx := Lib.hid hx
      rw [← hx]
      clear hx
      have HO := Lib.hid (show (w1.alloc (.cells #[.int .u32 (U x)] 40)).ownsRow w.heap.size 40 1 u7 (mkR C k).length (vus (mkR C k)) from HX2.out.made.alloc (.cells #[.int .u32 (U x)] 40))
      have hs1 := Lib.hid (src47_one w1 x)
      have hBs := Lib.hid (show w.heap.size ≤ (w1.alloc (.cells #[.int .u32 (U x)] 40)).heap.size from Nat.le_trans HX2.out.bel.size (by simp))
      have hLn := Lib.hid (show (mkR C k).length + 1 ≤ 35184372088832 by rw [mkR_len]; omega)
      go_upto_region 8 with (refine wpList_app47 (o := ⟨some 28, _, _, _, _, _⟩) rfl (.tmp 25) (.tmp 27) rfl rfl w.heap.size u7 (mkR C k).length (vus (mkR C k)) rfl HO.out (some ⟨w1.heap.size, 0, none⟩) 1 1 (vus [x]) rfl hs1.out (fun h => by cases h) hLn.out hBs.out ?_; intro v7 w7 own7 hg7)
      have B7 : Below w.heap.size w w7 := (HX2.out.bel.alloc HX2.out.bel.size _).grown hg7 hBs.out (fun g hg => (World.ownsRow.lt HO.out g hg).1)
      have M7 : OU w7 w.heap.size v7 (mkR C (k + 1)) := by
        unfold OU
        show w7.ownsRow w.heap.size 40 1 v7 (mkR C k ++ [Wd C k]).length (vus (mkR C k ++ [Wd C k]))
        rw [List.length_append, ← Hx.out, show vus (mkR C k ++ [x]) = vus (mkR C k) ++ vus [x] by simp [vus]]
        exact own7
      have LC7' : ∀ j, j < 8 → w7.cell? ⟨lb, lo + j, none⟩ = some (.int .u32 (U ((stl (stR C s k)).getD j 0))) := fun j hj =>
        hg7.cell (cell_alloc _ (HX2.out.l j hj)) (fun h => HX2.out.apart _ h.symm rfl)
      have LC7 := Lib.hid LC7'
      clear LC7'
      have LT7 : lb < w7.heap.size := Nat.lt_of_lt_of_le (Nat.lt_of_lt_of_le HX2.out.lt (by simp)) hg7.size
      have KK7 : w7.cell? ⟨kb, ko + k, none⟩ = some (.int .u32 (U (KK.getD k 0))) := by rw [B7.cell (p := ⟨kb, ko + k, none⟩) hk]; exact HK.out k hlt
      have AP7 : True := trivial
      clear HO hs1 hBs hLn own7 hg7 HX2
      have hst : stR C s (k + 1) = rnd (stR C s k) (KK.getD k 0) x := by rw [Hx.out]; rfl
      have HST := Lib.hid hst
      clear hst
      obtain ⟨Kk, hKk⟩ : ∃ Kk, Kk = KK.getD k 0 := ⟨_, rfl⟩
      rw [← hKk] at KK7 HST
      clear hKk
      obtain ⟨T, hT⟩ : ∃ T, T = stR C s k := ⟨_, rfl⟩
      rw [← hT] at LC7 HST
      clear hT Hx
      obtain ⟨a, b, c, d, e, f, g, h⟩ := T
      have ha : ∀ x y : BitVec 32, (U x + U y) % (4294967296 : Int) = U (x + y) := U_add
      have hxa := U_and
      have hxo := U_or
      have hnt := U_not
      have haw : ∀ x y : BitVec 32, IntKind.u32.wrap (U x + U y) = U (x + y) := fun x y => by rw [IntKind.wrap_u32']; exact U_add x y
      have hntw : ∀ x : BitVec 32, IntKind.u32.wrap (4294967295 - U x) = U (~~~ x) := fun x => by rw [IntKind.wrap_u32']; exact U_not x
      have d4 : w7.cell? ⟨lb, lo + 4, none⟩ = some (.int .u32 (U e)) := LC7.out 4 (by omega)
      have k0 : (0 : Int) ≤ (k : Int) := by omega
      go_upto_region 9 with fail
      have d7 : w7.cell? ⟨lb, lo + 7, none⟩ = some (.int .u32 (U h)) := LC7.out 7 (by omega)
      have d5 : w7.cell? ⟨lb, lo + 5, none⟩ = some (.int .u32 (U f)) := LC7.out 5 (by omega)
      have d6 : w7.cell? ⟨lb, lo + 6, none⟩ = some (.int .u32 (U g)) := LC7.out 6 (by omega)
      have kk := KK7
      have r6 : ∀ (x : BitVec 32) wq, Calls Tryd.prog 70 #[.int .u32 (U x), .int .i64 6] wq fun e w' => e = .returned (.int .u32 (U (x.rotateRight 6))) ∧ wq = w' := fun x wq => right_any x 6 (by omega) wq
      have r11 : ∀ (x : BitVec 32) wq, Calls Tryd.prog 70 #[.int .u32 (U x), .int .i64 11] wq fun e w' => e = .returned (.int .u32 (U (x.rotateRight 11))) ∧ wq = w' := fun x wq => right_any x 11 (by omega) wq
      have r25 : ∀ (x : BitVec 32) wq, Calls Tryd.prog 70 #[.int .u32 (U x), .int .i64 25] wq fun e w' => e = .returned (.int .u32 (U (x.rotateRight 25))) ∧ wq = w' := fun x wq => right_any x 25 (by omega) wq
      have r2 : ∀ (x : BitVec 32) wq, Calls Tryd.prog 70 #[.int .u32 (U x), .int .i64 2] wq fun e w' => e = .returned (.int .u32 (U (x.rotateRight 2))) ∧ wq = w' := fun x wq => right_any x 2 (by omega) wq
      have r13 : ∀ (x : BitVec 32) wq, Calls Tryd.prog 70 #[.int .u32 (U x), .int .i64 13] wq fun e w' => e = .returned (.int .u32 (U (x.rotateRight 13))) ∧ wq = w' := fun x wq => right_any x 13 (by omega) wq
      have r22 : ∀ (x : BitVec 32) wq, Calls Tryd.prog 70 #[.int .u32 (U x), .int .i64 22] wq fun e w' => e = .returned (.int .u32 (U (x.rotateRight 22))) ∧ wq = w' := fun x wq => right_any x 22 (by omega) wq
      clear d4
      refine wp_calm ?_
      refine wp_region_but (z := 31) (fun w' : World => w'.cell? ⟨lb, lo + 7, none⟩ = some (.int .u32 (U h)) ∧ w'.cell? ⟨lb, lo + 5, none⟩ = some (.int .u32 (U f)) ∧ w'.cell? ⟨lb, lo + 6, none⟩ = some (.int .u32 (U g)) ∧ w'.cell? ⟨kb, ko + k, none⟩ = some (.int .u32 (U Kk))) (by kernel_rfl) ?_
      have hS : (fun w' : World => w'.cell? ⟨lb, lo + 7, none⟩ = some (.int .u32 (U h)) ∧ w'.cell? ⟨lb, lo + 5, none⟩ = some (.int .u32 (U f)) ∧ w'.cell? ⟨lb, lo + 6, none⟩ = some (.int .u32 (U g)) ∧ w'.cell? ⟨kb, ko + k, none⟩ = some (.int .u32 (U Kk))) w7.drew := ⟨d7, d5, d6, kk⟩
      have B8 : Below w.heap.size w w7.drew := B7.drew
      have M8 : OU w7.drew w.heap.size v7 (mkR C (k + 1)) := M7
      have LC8 : Hid (∀ j, j < 8 → w7.drew.cell? ⟨lb, lo + j, none⟩ = some (.int .u32 (U ((stl ⟨a, b, c, d, e, f, g, h⟩).getD j 0)))) := LC7
      have LT8 : lb < w7.drew.heap.size := LT7
      clear B7 M7 LC7 LT7 AP7 KK7 kk d5 d6 d7
      generalize w7.drew = w8 at hS B8 M8 LC8 LT8 ⊢
      refine AnyBut.take (i := 0) (v := ?_) rfl (by kernel_rfl) (by kernel_rfl) (by kernel_rfl) (by kernel_rfl) (fun _ _ _ h => h) (Or.inl ⟨by rfl, ?_⟩) hS ?_
      rotate_left
      · (intro wq hq; go_simp; try with_reducible rfl)
      try simp only [Act.put, List.setIfInBounds_toArray, List.set_cons_zero, List.set_cons_succ, List.getElem_toArray, List.getElem_cons_zero, List.getElem_cons_succ]
      refine AnyBut.take (i := 1) (v := ?_) rfl (by kernel_rfl) (by kernel_rfl) (by kernel_rfl) (by kernel_rfl) (fun _ _ _ h => h) (Or.inl ⟨by rfl, ?_⟩) hS ?_
      rotate_left
      · (intro wq hq; go_simp; try with_reducible rfl)
      try simp only [Act.put, List.setIfInBounds_toArray, List.set_cons_zero, List.set_cons_succ, List.getElem_toArray, List.getElem_cons_zero, List.getElem_cons_succ]
      refine AnyBut.take (i := 2) (v := ?_) rfl (by kernel_rfl) (by kernel_rfl) (by kernel_rfl) (by kernel_rfl) (fun _ _ _ h => h) (Or.inl ⟨by rfl, ?_⟩) hS ?_
      rotate_left
      · (intro wq hq; obtain ⟨hq0, hq1, hq2, hq3⟩ := hq; go_simp; try with_reducible rfl)
      try simp only [Act.put, List.setIfInBounds_toArray, List.set_cons_zero, List.set_cons_succ, List.getElem_toArray, List.getElem_cons_zero, List.getElem_cons_succ]
      refine AnyBut.take (i := 3) (v := ?_) rfl (by kernel_rfl) (by kernel_rfl) (by kernel_rfl) (by kernel_rfl) (fun _ _ _ h => h) (Or.inl ⟨by rfl, ?_⟩) hS ?_
      rotate_left
      · (intro wq hq; go_simp; try with_reducible rfl)
      try simp only [Act.put, List.setIfInBounds_toArray, List.set_cons_zero, List.set_cons_succ, List.getElem_toArray, List.getElem_cons_zero, List.getElem_cons_succ]
      refine AnyBut.take (i := 5) (v := ?_) rfl (by kernel_rfl) (by kernel_rfl) (by kernel_rfl) (by kernel_rfl) (fun _ _ _ h => h) (Or.inl ⟨by rfl, ?_⟩) hS ?_
      rotate_left
      · (intro wq hq; go_simp; try with_reducible rfl)
      try simp only [Act.put, List.setIfInBounds_toArray, List.set_cons_zero, List.set_cons_succ, List.getElem_toArray, List.getElem_cons_zero, List.getElem_cons_succ]
      refine AnyBut.take (i := 7) (v := ?_) rfl (by kernel_rfl) (by kernel_rfl) (by kernel_rfl) (by kernel_rfl) (fun _ _ _ h => h) (Or.inl ⟨by rfl, ?_⟩) hS ?_
      rotate_left
      · (intro wq hq; go_simp; try with_reducible rfl)
      try simp only [Act.put, List.setIfInBounds_toArray, List.set_cons_zero, List.set_cons_succ, List.getElem_toArray, List.getElem_cons_zero, List.getElem_cons_succ]
      refine AnyBut.take (i := 11) (v := ?_) rfl (by kernel_rfl) (by kernel_rfl) (by kernel_rfl) (by kernel_rfl) (fun _ _ _ h => h) (Or.inl ⟨by rfl, ?_⟩) hS ?_
      rotate_left
      · (intro wq hq; go_simp; try with_reducible rfl)
      try simp only [Act.put, List.setIfInBounds_toArray, List.set_cons_zero, List.set_cons_succ, List.getElem_toArray, List.getElem_cons_zero, List.getElem_cons_succ]
      refine AnyBut.take (i := 12) (v := ?_) rfl (by kernel_rfl) (by kernel_rfl) (by kernel_rfl) (by kernel_rfl) (fun _ _ _ h => h) (Or.inl ⟨by rfl, ?_⟩) hS ?_
      rotate_left
      · (intro wq hq; go_simp; try with_reducible rfl)
      try simp only [Act.put, List.setIfInBounds_toArray, List.set_cons_zero, List.set_cons_succ, List.getElem_toArray, List.getElem_cons_zero, List.getElem_cons_succ]
      refine AnyBut.take (i := 13) (v := ?_) rfl (by kernel_rfl) (by kernel_rfl) (by kernel_rfl) (by kernel_rfl) (fun _ _ _ h => h) (Or.inl ⟨by rfl, ?_⟩) hS ?_
      rotate_left
      · (intro wq hq; go_simp; try with_reducible rfl)
      try simp only [Act.put, List.setIfInBounds_toArray, List.set_cons_zero, List.set_cons_succ, List.getElem_toArray, List.getElem_cons_zero, List.getElem_cons_succ]
      refine AnyBut.take (i := 14) (v := ?_) rfl (by kernel_rfl) (by kernel_rfl) (by kernel_rfl) (by kernel_rfl) (fun _ _ _ h => h) (Or.inl ⟨by rfl, ?_⟩) hS ?_
      rotate_left
      · (intro wq hq; obtain ⟨hq0, hq1, hq2, hq3⟩ := hq; go_simp; try with_reducible rfl)
      try simp only [Act.put, List.setIfInBounds_toArray, List.set_cons_zero, List.set_cons_succ, List.getElem_toArray, List.getElem_cons_zero, List.getElem_cons_succ]
      refine AnyBut.take (i := 15) (v := ?_) rfl (by kernel_rfl) (by kernel_rfl) (by kernel_rfl) (by kernel_rfl) (fun _ _ _ h => h) (Or.inl ⟨by rfl, ?_⟩) hS ?_
      rotate_left
      · (intro wq hq; go_simp; try with_reducible rfl)
      try simp only [Act.put, List.setIfInBounds_toArray, List.set_cons_zero, List.set_cons_succ, List.getElem_toArray, List.getElem_cons_zero, List.getElem_cons_succ]
      refine AnyBut.take (i := 16) (v := ?_) rfl (by kernel_rfl) (by kernel_rfl) (by kernel_rfl) (by kernel_rfl) (fun _ _ _ h => h) (Or.inl ⟨by rfl, ?_⟩) hS ?_
      rotate_left
      · (intro wq hq; go_simp; try with_reducible rfl)
      try simp only [Act.put, List.setIfInBounds_toArray, List.set_cons_zero, List.set_cons_succ, List.getElem_toArray, List.getElem_cons_zero, List.getElem_cons_succ]
      refine AnyBut.take (i := 17) (v := ?_) rfl (by kernel_rfl) (by kernel_rfl) (by kernel_rfl) (by kernel_rfl) (fun _ _ _ h => h) (Or.inl ⟨by rfl, ?_⟩) hS ?_
      rotate_left
      · (intro wq hq; go_simp; try with_reducible rfl)
      try simp only [Act.put, List.setIfInBounds_toArray, List.set_cons_zero, List.set_cons_succ, List.getElem_toArray, List.getElem_cons_zero, List.getElem_cons_succ]
      refine AnyBut.take (i := 18) (v := ?_) rfl (by kernel_rfl) (by kernel_rfl) (by kernel_rfl) (by kernel_rfl) (fun _ _ _ h => h) (Or.inl ⟨by rfl, ?_⟩) hS ?_
      rotate_left
      · (intro wq hq; go_simp; try with_reducible rfl)
      try simp only [Act.put, List.setIfInBounds_toArray, List.set_cons_zero, List.set_cons_succ, List.getElem_toArray, List.getElem_cons_zero, List.getElem_cons_succ]
      refine AnyBut.take (i := 19) (v := ?_) rfl (by kernel_rfl) (by kernel_rfl) (by kernel_rfl) (by kernel_rfl) (fun _ _ _ h => h) (Or.inl ⟨by rfl, ?_⟩) hS ?_
      rotate_left
      · (intro wq hq; go_simp; try with_reducible rfl)
      try simp only [Act.put, List.setIfInBounds_toArray, List.set_cons_zero, List.set_cons_succ, List.getElem_toArray, List.getElem_cons_zero, List.getElem_cons_succ]
      refine AnyBut.take (i := 20) (v := ?_) rfl (by kernel_rfl) (by kernel_rfl) (by kernel_rfl) (by kernel_rfl) (fun _ _ _ h => h) (Or.inl ⟨by rfl, ?_⟩) hS ?_
      rotate_left
      · (intro wq hq; obtain ⟨hq0, hq1, hq2, hq3⟩ := hq; go_simp; try with_reducible rfl)
      try simp only [Act.put, List.setIfInBounds_toArray, List.set_cons_zero, List.set_cons_succ, List.getElem_toArray, List.getElem_cons_zero, List.getElem_cons_succ]
      refine AnyBut.take (i := 21) (v := ?_) rfl (by kernel_rfl) (by kernel_rfl) (by kernel_rfl) (by kernel_rfl) (fun _ _ _ h => h) (Or.inl ⟨by rfl, ?_⟩) hS ?_
      rotate_left
      · (intro wq hq; go_simp; try with_reducible rfl)
      try simp only [Act.put, List.setIfInBounds_toArray, List.set_cons_zero, List.set_cons_succ, List.getElem_toArray, List.getElem_cons_zero, List.getElem_cons_succ]
      refine AnyBut.take (i := 22) (v := ?_) rfl (by kernel_rfl) (by kernel_rfl) (by kernel_rfl) (by kernel_rfl) (fun _ _ _ h => h) (Or.inl ⟨by rfl, ?_⟩) hS ?_
      rotate_left
      · (intro wq hq; go_simp; try with_reducible rfl)
      try simp only [Act.put, List.setIfInBounds_toArray, List.set_cons_zero, List.set_cons_succ, List.getElem_toArray, List.getElem_cons_zero, List.getElem_cons_succ]
      refine AnyBut.take (i := 24) (v := ?_) rfl (by kernel_rfl) (by kernel_rfl) (by kernel_rfl) (by kernel_rfl) (fun _ _ _ h => h) (Or.inl ⟨by rfl, ?_⟩) hS ?_
      rotate_left
      · (intro wq hq; go_simp; try with_reducible rfl)
      try simp only [Act.put, List.setIfInBounds_toArray, List.set_cons_zero, List.set_cons_succ, List.getElem_toArray, List.getElem_cons_zero, List.getElem_cons_succ]
      refine AnyBut.take (i := 25) (v := ?_) rfl (by kernel_rfl) (by kernel_rfl) (by kernel_rfl) (by kernel_rfl) (fun _ _ _ h => h) (Or.inl ⟨by rfl, ?_⟩) hS ?_
      rotate_left
      · (intro wq hq; go_simp; try with_reducible rfl)
      try simp only [Act.put, List.setIfInBounds_toArray, List.set_cons_zero, List.set_cons_succ, List.getElem_toArray, List.getElem_cons_zero, List.getElem_cons_succ]
      refine AnyBut.take (i := 26) (v := ?_) rfl (by kernel_rfl) (by kernel_rfl) (by kernel_rfl) (by kernel_rfl) (fun _ _ _ h => h) (Or.inl ⟨by rfl, ?_⟩) hS ?_
      rotate_left
      · (intro wq hq; go_simp; try with_reducible rfl)
      try simp only [Act.put, List.setIfInBounds_toArray, List.set_cons_zero, List.set_cons_succ, List.getElem_toArray, List.getElem_cons_zero, List.getElem_cons_succ]
      refine AnyBut.take (i := 27) (v := ?_) rfl (by kernel_rfl) (by kernel_rfl) (by kernel_rfl) (by kernel_rfl) (fun _ _ _ h => h) (Or.inl ⟨by rfl, ?_⟩) hS ?_
      rotate_left
      · (intro wq hq; obtain ⟨hq0, hq1, hq2, hq3⟩ := hq; go_simp; try with_reducible rfl)
      try simp only [Act.put, List.setIfInBounds_toArray, List.set_cons_zero, List.set_cons_succ, List.getElem_toArray, List.getElem_cons_zero, List.getElem_cons_succ]
      refine AnyBut.take (i := 29) (v := ?_) rfl (by kernel_rfl) (by kernel_rfl) (by kernel_rfl) (by kernel_rfl) (fun _ _ _ h => h) (Or.inl ⟨by rfl, ?_⟩) hS ?_
      rotate_left
      · (intro wq hq; go_simp; try with_reducible rfl)
      try simp only [Act.put, List.setIfInBounds_toArray, List.set_cons_zero, List.set_cons_succ, List.getElem_toArray, List.getElem_cons_zero, List.getElem_cons_succ]
      refine AnyBut.gone (i := 4) (by kernel_rfl) rfl (by rfl) (fun K hK => ?_)
      go_simp
      (with_reducible refine (r6 _ _).mono ?_)
      rintro e wz ⟨rfl, rfl⟩
      dsimp only
      refine hK _ _ (fun _ => hS) ?_
      clear hK K
      try simp only [Act.put, List.setIfInBounds_toArray, List.set_cons_zero, List.set_cons_succ, List.getElem_toArray, List.getElem_cons_zero, List.getElem_cons_succ]
      refine AnyBut.gone (i := 6) (by kernel_rfl) rfl (by rfl) (fun K hK => ?_)
      go_simp
      (with_reducible refine (r11 _ _).mono ?_)
      rintro e wz ⟨rfl, rfl⟩
      dsimp only
      refine hK _ _ (fun _ => hS) ?_
      clear hK K
      try simp only [Act.put, List.setIfInBounds_toArray, List.set_cons_zero, List.set_cons_succ, List.getElem_toArray, List.getElem_cons_zero, List.getElem_cons_succ]
      refine AnyBut.gone (i := 8) (by kernel_rfl) rfl (by rfl) (fun K hK => ?_)
      go_simp
      (with_reducible refine (r25 _ _).mono ?_)
      rintro e wz ⟨rfl, rfl⟩
      dsimp only
      refine hK _ _ (fun _ => hS) ?_
      clear hK K
      try simp only [Act.put, List.setIfInBounds_toArray, List.set_cons_zero, List.set_cons_succ, List.getElem_toArray, List.getElem_cons_zero, List.getElem_cons_succ]
      refine AnyBut.gone (i := 9) (by kernel_rfl) rfl (by rfl) (fun K hK => ?_)
      go_simp
      (with_reducible refine (three_any _ _ _ _).mono ?_)
      rintro e wz ⟨rfl, rfl⟩
      dsimp only
      refine hK _ _ (fun _ => hS) ?_
      clear hK K
      try simp only [Act.put, List.setIfInBounds_toArray, List.set_cons_zero, List.set_cons_succ, List.getElem_toArray, List.getElem_cons_zero, List.getElem_cons_succ]
      refine AnyBut.take (i := 10) (v := ?_) rfl (by kernel_rfl) (by kernel_rfl) (by kernel_rfl) (by kernel_rfl) (fun _ _ _ h => h) (Or.inl ⟨by rfl, ?_⟩) hS ?_
      rotate_left
      · (intro wq hq; go_simp; try with_reducible rfl)
      try simp only [Act.put, List.setIfInBounds_toArray, List.set_cons_zero, List.set_cons_succ, List.getElem_toArray, List.getElem_cons_zero, List.getElem_cons_succ]
      refine AnyBut.take (i := 23) (v := ?_) rfl (by kernel_rfl) (by kernel_rfl) (by kernel_rfl) (by kernel_rfl) (fun _ _ _ h => h) (Or.inl ⟨by rfl, ?_⟩) hS ?_
      rotate_left
      · (intro wq hq; go_simp; try with_reducible rfl)
      try simp only [Act.put, List.setIfInBounds_toArray, List.set_cons_zero, List.set_cons_succ, List.getElem_toArray, List.getElem_cons_zero, List.getElem_cons_succ]
      refine AnyBut.take (i := 28) (v := ?_) rfl (by kernel_rfl) (by kernel_rfl) (by kernel_rfl) (by kernel_rfl) (fun _ _ _ h => h) (Or.inl ⟨by rfl, ?_⟩) hS ?_
      rotate_left
      · (intro wq hq; go_simp; try with_reducible rfl)
      try simp only [Act.put, List.setIfInBounds_toArray, List.set_cons_zero, List.set_cons_succ, List.getElem_toArray, List.getElem_cons_zero, List.getElem_cons_succ]
      refine AnyBut.take (i := 30) (v := ?_) rfl (by kernel_rfl) (by kernel_rfl) (by kernel_rfl) (by kernel_rfl) (fun _ _ _ h => h) (Or.inl ⟨by rfl, ?_⟩) hS ?_
      rotate_left
      · (intro wq hq; go_simp; try with_reducible rfl)
      try simp only [Act.put, List.setIfInBounds_toArray, List.set_cons_zero, List.set_cons_succ, List.getElem_toArray, List.getElem_cons_zero, List.getElem_cons_succ]
      refine AnyBut.gone (i := 31) (by kernel_rfl) rfl (by rfl) (fun K hK => ?_)
      go_simp
      refine hK _ _ (fun h => absurd rfl h) ?_
      clear hK K
      refine AnyBut.done (by kernel_rfl) ?_ _
      dsimp only [Exit.then]
      clear hS
      obtain ⟨tt, htt⟩ : ∃ tt, tt = h + (e.rotateRight 6 ^^^ e.rotateRight 11 ^^^ e.rotateRight 25) + ((e &&& f) + (~~~ e &&& g)) + Kk + x := ⟨_, rfl⟩
      have HTT := Lib.hid htt
      rw [← htt]
      clear htt
      go_upto_region 10 with fail
      have d0 : w8.cell? ⟨lb, lo, none⟩ = some (.int .u32 (U a)) := LC8.out 0 (by omega)
      have d1 : w8.cell? ⟨lb, lo + 1, none⟩ = some (.int .u32 (U b)) := LC8.out 1 (by omega)
      have d2 : w8.cell? ⟨lb, lo + 2, none⟩ = some (.int .u32 (U c)) := LC8.out 2 (by omega)
      refine wp_calm ?_
      refine wp_region_but (z := 37) (fun w' : World => w'.cell? ⟨lb, lo, none⟩ = some (.int .u32 (U a)) ∧ w'.cell? ⟨lb, lo + 1, none⟩ = some (.int .u32 (U b)) ∧ w'.cell? ⟨lb, lo + 2, none⟩ = some (.int .u32 (U c))) (by kernel_rfl) ?_
      have hS : (fun w' : World => w'.cell? ⟨lb, lo, none⟩ = some (.int .u32 (U a)) ∧ w'.cell? ⟨lb, lo + 1, none⟩ = some (.int .u32 (U b)) ∧ w'.cell? ⟨lb, lo + 2, none⟩ = some (.int .u32 (U c))) w8.drew := ⟨d0, d1, d2⟩
      have B9 : Below w.heap.size w w8.drew := B8.drew
      have M9 : OU w8.drew w.heap.size v7 (mkR C (k + 1)) := M8
      have LC9 : Hid (∀ j, j < 8 → w8.drew.cell? ⟨lb, lo + j, none⟩ = some (.int .u32 (U ((stl ⟨a, b, c, d, e, f, g, h⟩).getD j 0)))) := LC8
      have LT9 : lb < w8.drew.heap.size := LT8
      clear B8 M8 LC8 LT8 d0 d1 d2
      generalize w8.drew = w9 at hS B9 M9 LC9 LT9 ⊢
      refine AnyBut.take (i := 0) (v := ?_) rfl (by kernel_rfl) (by kernel_rfl) (by kernel_rfl) (by kernel_rfl) (fun _ _ _ h => h) (Or.inl ⟨by rfl, ?_⟩) hS ?_
      rotate_left
      · (intro wq hq; go_simp; try with_reducible rfl)
      try simp only [Act.put, List.setIfInBounds_toArray, List.set_cons_zero, List.set_cons_succ, List.getElem_toArray, List.getElem_cons_zero, List.getElem_cons_succ]
      refine AnyBut.take (i := 1) (v := ?_) rfl (by kernel_rfl) (by kernel_rfl) (by kernel_rfl) (by kernel_rfl) (fun _ _ _ h => h) (Or.inl ⟨by rfl, ?_⟩) hS ?_
      rotate_left
      · (intro wq hq; go_simp; try with_reducible rfl)
      try simp only [Act.put, List.setIfInBounds_toArray, List.set_cons_zero, List.set_cons_succ, List.getElem_toArray, List.getElem_cons_zero, List.getElem_cons_succ]
      refine AnyBut.take (i := 2) (v := ?_) rfl (by kernel_rfl) (by kernel_rfl) (by kernel_rfl) (by kernel_rfl) (fun _ _ _ h => h) (Or.inl ⟨by rfl, ?_⟩) hS ?_
      rotate_left
      · (intro wq hq; obtain ⟨hq0, hq1, hq2⟩ := hq; go_simp; try with_reducible rfl)
      try simp only [Act.put, List.setIfInBounds_toArray, List.set_cons_zero, List.set_cons_succ, List.getElem_toArray, List.getElem_cons_zero, List.getElem_cons_succ]
      refine AnyBut.take (i := 4) (v := ?_) rfl (by kernel_rfl) (by kernel_rfl) (by kernel_rfl) (by kernel_rfl) (fun _ _ _ h => h) (Or.inl ⟨by rfl, ?_⟩) hS ?_
      rotate_left
      · (intro wq hq; go_simp; try with_reducible rfl)
      try simp only [Act.put, List.setIfInBounds_toArray, List.set_cons_zero, List.set_cons_succ, List.getElem_toArray, List.getElem_cons_zero, List.getElem_cons_succ]
      refine AnyBut.take (i := 5) (v := ?_) rfl (by kernel_rfl) (by kernel_rfl) (by kernel_rfl) (by kernel_rfl) (fun _ _ _ h => h) (Or.inl ⟨by rfl, ?_⟩) hS ?_
      rotate_left
      · (intro wq hq; go_simp; try with_reducible rfl)
      try simp only [Act.put, List.setIfInBounds_toArray, List.set_cons_zero, List.set_cons_succ, List.getElem_toArray, List.getElem_cons_zero, List.getElem_cons_succ]
      refine AnyBut.take (i := 6) (v := ?_) rfl (by kernel_rfl) (by kernel_rfl) (by kernel_rfl) (by kernel_rfl) (fun _ _ _ h => h) (Or.inl ⟨by rfl, ?_⟩) hS ?_
      rotate_left
      · (intro wq hq; obtain ⟨hq0, hq1, hq2⟩ := hq; go_simp; try with_reducible rfl)
      try simp only [Act.put, List.setIfInBounds_toArray, List.set_cons_zero, List.set_cons_succ, List.getElem_toArray, List.getElem_cons_zero, List.getElem_cons_succ]
      refine AnyBut.take (i := 8) (v := ?_) rfl (by kernel_rfl) (by kernel_rfl) (by kernel_rfl) (by kernel_rfl) (fun _ _ _ h => h) (Or.inl ⟨by rfl, ?_⟩) hS ?_
      rotate_left
      · (intro wq hq; go_simp; try with_reducible rfl)
      try simp only [Act.put, List.setIfInBounds_toArray, List.set_cons_zero, List.set_cons_succ, List.getElem_toArray, List.getElem_cons_zero, List.getElem_cons_succ]
      refine AnyBut.take (i := 9) (v := ?_) rfl (by kernel_rfl) (by kernel_rfl) (by kernel_rfl) (by kernel_rfl) (fun _ _ _ h => h) (Or.inl ⟨by rfl, ?_⟩) hS ?_
      rotate_left
      · (intro wq hq; go_simp; try with_reducible rfl)
      try simp only [Act.put, List.setIfInBounds_toArray, List.set_cons_zero, List.set_cons_succ, List.getElem_toArray, List.getElem_cons_zero, List.getElem_cons_succ]
      refine AnyBut.take (i := 10) (v := ?_) rfl (by kernel_rfl) (by kernel_rfl) (by kernel_rfl) (by kernel_rfl) (fun _ _ _ h => h) (Or.inl ⟨by rfl, ?_⟩) hS ?_
      rotate_left
      · (intro wq hq; obtain ⟨hq0, hq1, hq2⟩ := hq; go_simp; try with_reducible rfl)
      try simp only [Act.put, List.setIfInBounds_toArray, List.set_cons_zero, List.set_cons_succ, List.getElem_toArray, List.getElem_cons_zero, List.getElem_cons_succ]
      refine AnyBut.take (i := 13) (v := ?_) rfl (by kernel_rfl) (by kernel_rfl) (by kernel_rfl) (by kernel_rfl) (fun _ _ _ h => h) (Or.inl ⟨by rfl, ?_⟩) hS ?_
      rotate_left
      · (intro wq hq; go_simp; try with_reducible rfl)
      try simp only [Act.put, List.setIfInBounds_toArray, List.set_cons_zero, List.set_cons_succ, List.getElem_toArray, List.getElem_cons_zero, List.getElem_cons_succ]
      refine AnyBut.take (i := 14) (v := ?_) rfl (by kernel_rfl) (by kernel_rfl) (by kernel_rfl) (by kernel_rfl) (fun _ _ _ h => h) (Or.inl ⟨by rfl, ?_⟩) hS ?_
      rotate_left
      · (intro wq hq; go_simp; try with_reducible rfl)
      try simp only [Act.put, List.setIfInBounds_toArray, List.set_cons_zero, List.set_cons_succ, List.getElem_toArray, List.getElem_cons_zero, List.getElem_cons_succ]
      refine AnyBut.take (i := 15) (v := ?_) rfl (by kernel_rfl) (by kernel_rfl) (by kernel_rfl) (by kernel_rfl) (fun _ _ _ h => h) (Or.inl ⟨by rfl, ?_⟩) hS ?_
      rotate_left
      · (intro wq hq; obtain ⟨hq0, hq1, hq2⟩ := hq; go_simp; try with_reducible rfl)
      try simp only [Act.put, List.setIfInBounds_toArray, List.set_cons_zero, List.set_cons_succ, List.getElem_toArray, List.getElem_cons_zero, List.getElem_cons_succ]
      refine AnyBut.take (i := 16) (v := ?_) rfl (by kernel_rfl) (by kernel_rfl) (by kernel_rfl) (by kernel_rfl) (fun _ _ _ h => h) (Or.inl ⟨by rfl, ?_⟩) hS ?_
      rotate_left
      · (intro wq hq; go_simp; try with_reducible rfl)
      try simp only [Act.put, List.setIfInBounds_toArray, List.set_cons_zero, List.set_cons_succ, List.getElem_toArray, List.getElem_cons_zero, List.getElem_cons_succ]
      refine AnyBut.take (i := 17) (v := ?_) rfl (by kernel_rfl) (by kernel_rfl) (by kernel_rfl) (by kernel_rfl) (fun _ _ _ h => h) (Or.inl ⟨by rfl, ?_⟩) hS ?_
      rotate_left
      · (intro wq hq; go_simp; try with_reducible rfl)
      try simp only [Act.put, List.setIfInBounds_toArray, List.set_cons_zero, List.set_cons_succ, List.getElem_toArray, List.getElem_cons_zero, List.getElem_cons_succ]
      refine AnyBut.take (i := 18) (v := ?_) rfl (by kernel_rfl) (by kernel_rfl) (by kernel_rfl) (by kernel_rfl) (fun _ _ _ h => h) (Or.inl ⟨by rfl, ?_⟩) hS ?_
      rotate_left
      · (intro wq hq; obtain ⟨hq0, hq1, hq2⟩ := hq; go_simp; try with_reducible rfl)
      try simp only [Act.put, List.setIfInBounds_toArray, List.set_cons_zero, List.set_cons_succ, List.getElem_toArray, List.getElem_cons_zero, List.getElem_cons_succ]
      refine AnyBut.take (i := 19) (v := ?_) rfl (by kernel_rfl) (by kernel_rfl) (by kernel_rfl) (by kernel_rfl) (fun _ _ _ h => h) (Or.inl ⟨by rfl, ?_⟩) hS ?_
      rotate_left
      · (intro wq hq; go_simp; try with_reducible rfl)
      try simp only [Act.put, List.setIfInBounds_toArray, List.set_cons_zero, List.set_cons_succ, List.getElem_toArray, List.getElem_cons_zero, List.getElem_cons_succ]
      refine AnyBut.take (i := 20) (v := ?_) rfl (by kernel_rfl) (by kernel_rfl) (by kernel_rfl) (by kernel_rfl) (fun _ _ _ h => h) (Or.inl ⟨by rfl, ?_⟩) hS ?_
      rotate_left
      · (intro wq hq; go_simp; try with_reducible rfl)
      try simp only [Act.put, List.setIfInBounds_toArray, List.set_cons_zero, List.set_cons_succ, List.getElem_toArray, List.getElem_cons_zero, List.getElem_cons_succ]
      refine AnyBut.take (i := 21) (v := ?_) rfl (by kernel_rfl) (by kernel_rfl) (by kernel_rfl) (by kernel_rfl) (fun _ _ _ h => h) (Or.inl ⟨by rfl, ?_⟩) hS ?_
      rotate_left
      · (intro wq hq; go_simp; try with_reducible rfl)
      try simp only [Act.put, List.setIfInBounds_toArray, List.set_cons_zero, List.set_cons_succ, List.getElem_toArray, List.getElem_cons_zero, List.getElem_cons_succ]
      refine AnyBut.take (i := 22) (v := ?_) rfl (by kernel_rfl) (by kernel_rfl) (by kernel_rfl) (by kernel_rfl) (fun _ _ _ h => h) (Or.inl ⟨by rfl, ?_⟩) hS ?_
      rotate_left
      · (intro wq hq; obtain ⟨hq0, hq1, hq2⟩ := hq; go_simp; try with_reducible rfl)
      try simp only [Act.put, List.setIfInBounds_toArray, List.set_cons_zero, List.set_cons_succ, List.getElem_toArray, List.getElem_cons_zero, List.getElem_cons_succ]
      refine AnyBut.take (i := 23) (v := ?_) rfl (by kernel_rfl) (by kernel_rfl) (by kernel_rfl) (by kernel_rfl) (fun _ _ _ h => h) (Or.inl ⟨by rfl, ?_⟩) hS ?_
      rotate_left
      · (intro wq hq; go_simp; try with_reducible rfl)
      try simp only [Act.put, List.setIfInBounds_toArray, List.set_cons_zero, List.set_cons_succ, List.getElem_toArray, List.getElem_cons_zero, List.getElem_cons_succ]
      refine AnyBut.take (i := 24) (v := ?_) rfl (by kernel_rfl) (by kernel_rfl) (by kernel_rfl) (by kernel_rfl) (fun _ _ _ h => h) (Or.inl ⟨by rfl, ?_⟩) hS ?_
      rotate_left
      · (intro wq hq; go_simp; try with_reducible rfl)
      try simp only [Act.put, List.setIfInBounds_toArray, List.set_cons_zero, List.set_cons_succ, List.getElem_toArray, List.getElem_cons_zero, List.getElem_cons_succ]
      refine AnyBut.take (i := 25) (v := ?_) rfl (by kernel_rfl) (by kernel_rfl) (by kernel_rfl) (by kernel_rfl) (fun _ _ _ h => h) (Or.inl ⟨by rfl, ?_⟩) hS ?_
      rotate_left
      · (intro wq hq; obtain ⟨hq0, hq1, hq2⟩ := hq; go_simp; try with_reducible rfl)
      try simp only [Act.put, List.setIfInBounds_toArray, List.set_cons_zero, List.set_cons_succ, List.getElem_toArray, List.getElem_cons_zero, List.getElem_cons_succ]
      refine AnyBut.take (i := 26) (v := ?_) rfl (by kernel_rfl) (by kernel_rfl) (by kernel_rfl) (by kernel_rfl) (fun _ _ _ h => h) (Or.inl ⟨by rfl, ?_⟩) hS ?_
      rotate_left
      · (intro wq hq; go_simp; try with_reducible rfl)
      try simp only [Act.put, List.setIfInBounds_toArray, List.set_cons_zero, List.set_cons_succ, List.getElem_toArray, List.getElem_cons_zero, List.getElem_cons_succ]
      refine AnyBut.take (i := 27) (v := ?_) rfl (by kernel_rfl) (by kernel_rfl) (by kernel_rfl) (by kernel_rfl) (fun _ _ _ h => h) (Or.inl ⟨by rfl, ?_⟩) hS ?_
      rotate_left
      · (intro wq hq; go_simp; try with_reducible rfl)
      try simp only [Act.put, List.setIfInBounds_toArray, List.set_cons_zero, List.set_cons_succ, List.getElem_toArray, List.getElem_cons_zero, List.getElem_cons_succ]
      refine AnyBut.take (i := 28) (v := ?_) rfl (by kernel_rfl) (by kernel_rfl) (by kernel_rfl) (by kernel_rfl) (fun _ _ _ h => h) (Or.inl ⟨by rfl, ?_⟩) hS ?_
      rotate_left
      · (intro wq hq; go_simp; try with_reducible rfl)
      try simp only [Act.put, List.setIfInBounds_toArray, List.set_cons_zero, List.set_cons_succ, List.getElem_toArray, List.getElem_cons_zero, List.getElem_cons_succ]
      refine AnyBut.take (i := 29) (v := ?_) rfl (by kernel_rfl) (by kernel_rfl) (by kernel_rfl) (by kernel_rfl) (fun _ _ _ h => h) (Or.inl ⟨by rfl, ?_⟩) hS ?_
      rotate_left
      · (intro wq hq; go_simp; try with_reducible rfl)
      try simp only [Act.put, List.setIfInBounds_toArray, List.set_cons_zero, List.set_cons_succ, List.getElem_toArray, List.getElem_cons_zero, List.getElem_cons_succ]
      refine AnyBut.take (i := 30) (v := ?_) rfl (by kernel_rfl) (by kernel_rfl) (by kernel_rfl) (by kernel_rfl) (fun _ _ _ h => h) (Or.inl ⟨by rfl, ?_⟩) hS ?_
      rotate_left
      · (intro wq hq; obtain ⟨hq0, hq1, hq2⟩ := hq; go_simp; try with_reducible rfl)
      try simp only [Act.put, List.setIfInBounds_toArray, List.set_cons_zero, List.set_cons_succ, List.getElem_toArray, List.getElem_cons_zero, List.getElem_cons_succ]
      refine AnyBut.take (i := 31) (v := ?_) rfl (by kernel_rfl) (by kernel_rfl) (by kernel_rfl) (by kernel_rfl) (fun _ _ _ h => h) (Or.inl ⟨by rfl, ?_⟩) hS ?_
      rotate_left
      · (intro wq hq; go_simp; try with_reducible rfl)
      try simp only [Act.put, List.setIfInBounds_toArray, List.set_cons_zero, List.set_cons_succ, List.getElem_toArray, List.getElem_cons_zero, List.getElem_cons_succ]
      refine AnyBut.take (i := 32) (v := ?_) rfl (by kernel_rfl) (by kernel_rfl) (by kernel_rfl) (by kernel_rfl) (fun _ _ _ h => h) (Or.inl ⟨by rfl, ?_⟩) hS ?_
      rotate_left
      · (intro wq hq; go_simp; try with_reducible rfl)
      try simp only [Act.put, List.setIfInBounds_toArray, List.set_cons_zero, List.set_cons_succ, List.getElem_toArray, List.getElem_cons_zero, List.getElem_cons_succ]
      refine AnyBut.take (i := 33) (v := ?_) rfl (by kernel_rfl) (by kernel_rfl) (by kernel_rfl) (by kernel_rfl) (fun _ _ _ h => h) (Or.inl ⟨by rfl, ?_⟩) hS ?_
      rotate_left
      · (intro wq hq; obtain ⟨hq0, hq1, hq2⟩ := hq; go_simp; try with_reducible rfl)
      try simp only [Act.put, List.setIfInBounds_toArray, List.set_cons_zero, List.set_cons_succ, List.getElem_toArray, List.getElem_cons_zero, List.getElem_cons_succ]
      refine AnyBut.take (i := 34) (v := ?_) rfl (by kernel_rfl) (by kernel_rfl) (by kernel_rfl) (by kernel_rfl) (fun _ _ _ h => h) (Or.inl ⟨by rfl, ?_⟩) hS ?_
      rotate_left
      · (intro wq hq; go_simp; try with_reducible rfl)
      try simp only [Act.put, List.setIfInBounds_toArray, List.set_cons_zero, List.set_cons_succ, List.getElem_toArray, List.getElem_cons_zero, List.getElem_cons_succ]
      refine AnyBut.take (i := 35) (v := ?_) rfl (by kernel_rfl) (by kernel_rfl) (by kernel_rfl) (by kernel_rfl) (fun _ _ _ h => h) (Or.inl ⟨by rfl, ?_⟩) hS ?_
      rotate_left
      · (intro wq hq; go_simp; try with_reducible rfl)
      try simp only [Act.put, List.setIfInBounds_toArray, List.set_cons_zero, List.set_cons_succ, List.getElem_toArray, List.getElem_cons_zero, List.getElem_cons_succ]
      refine AnyBut.gone (i := 3) (by kernel_rfl) rfl (by rfl) (fun K hK => ?_)
      go_simp
      (with_reducible refine (r2 _ _).mono ?_)
      rintro e wz ⟨rfl, rfl⟩
      dsimp only
      refine hK _ _ (fun _ => hS) ?_
      clear hK K
      try simp only [Act.put, List.setIfInBounds_toArray, List.set_cons_zero, List.set_cons_succ, List.getElem_toArray, List.getElem_cons_zero, List.getElem_cons_succ]
      refine AnyBut.gone (i := 7) (by kernel_rfl) rfl (by rfl) (fun K hK => ?_)
      go_simp
      (with_reducible refine (r13 _ _).mono ?_)
      rintro e wz ⟨rfl, rfl⟩
      dsimp only
      refine hK _ _ (fun _ => hS) ?_
      clear hK K
      try simp only [Act.put, List.setIfInBounds_toArray, List.set_cons_zero, List.set_cons_succ, List.getElem_toArray, List.getElem_cons_zero, List.getElem_cons_succ]
      refine AnyBut.gone (i := 11) (by kernel_rfl) rfl (by rfl) (fun K hK => ?_)
      go_simp
      (with_reducible refine (r22 _ _).mono ?_)
      rintro e wz ⟨rfl, rfl⟩
      dsimp only
      refine hK _ _ (fun _ => hS) ?_
      clear hK K
      try simp only [Act.put, List.setIfInBounds_toArray, List.set_cons_zero, List.set_cons_succ, List.getElem_toArray, List.getElem_cons_zero, List.getElem_cons_succ]
      refine AnyBut.gone (i := 12) (by kernel_rfl) rfl (by rfl) (fun K hK => ?_)
      go_simp
      (with_reducible refine (three_any _ _ _ _).mono ?_)
      rintro e wz ⟨rfl, rfl⟩
      dsimp only
      refine hK _ _ (fun _ => hS) ?_
      clear hK K
      try simp only [Act.put, List.setIfInBounds_toArray, List.set_cons_zero, List.set_cons_succ, List.getElem_toArray, List.getElem_cons_zero, List.getElem_cons_succ]
      refine AnyBut.take (i := 36) (v := ?_) rfl (by kernel_rfl) (by kernel_rfl) (by kernel_rfl) (by kernel_rfl) (fun _ _ _ h => h) (Or.inl ⟨by rfl, ?_⟩) hS ?_
      rotate_left
      · (intro wq hq; go_simp; try with_reducible rfl)
      try simp only [Act.put, List.setIfInBounds_toArray, List.set_cons_zero, List.set_cons_succ, List.getElem_toArray, List.getElem_cons_zero, List.getElem_cons_succ]
      refine AnyBut.gone (i := 37) (by kernel_rfl) rfl (by rfl) (fun K hK => ?_)
      go_simp
      refine hK _ _ (fun h => absurd rfl h) ?_
      clear hK K
      refine AnyBut.done (by kernel_rfl) ?_ _
      dsimp only [Exit.then]
      clear hS
      obtain ⟨uu, huu⟩ : ∃ uu, uu = (a.rotateRight 2 ^^^ a.rotateRight 13 ^^^ a.rotateRight 22) + (a &&& b ||| b &&& c ||| c &&& a) := ⟨_, rfl⟩
      have HUU := Lib.hid huu
      rw [← huu]
      clear huu r6 r11 r25 r2 r13 r22
      go_upto_region 11 with fail
      have d0 : w9.cell? ⟨lb, lo, none⟩ = some (.int .u32 (U a)) := LC9.out 0 (by omega)
      have d1 : w9.cell? ⟨lb, lo + 1, none⟩ = some (.int .u32 (U b)) := LC9.out 1 (by omega)
      have d2 : w9.cell? ⟨lb, lo + 2, none⟩ = some (.int .u32 (U c)) := LC9.out 2 (by omega)
      have d3 : w9.cell? ⟨lb, lo + 3, none⟩ = some (.int .u32 (U d)) := LC9.out 3 (by omega)
      have c4 : (4 : Int) ≤ 7 := by omega
      have c7 : (7 : Int) ≤ (cap : Int) := by omega
      have cn : ¬ cap = 4 := by omega
      refine wp_calm_any ?_
      refine wp_region_but (z := 21) (fun w' : World => w'.cell? ⟨lb, lo, none⟩ = some (.int .u32 (U a)) ∧ w'.cell? ⟨lb, lo + 1, none⟩ = some (.int .u32 (U b)) ∧ w'.cell? ⟨lb, lo + 2, none⟩ = some (.int .u32 (U c)) ∧ w'.cell? ⟨lb, lo + 3, none⟩ = some (.int .u32 (U d))) (by kernel_rfl) ?_
      have hS : (fun w' : World => w'.cell? ⟨lb, lo, none⟩ = some (.int .u32 (U a)) ∧ w'.cell? ⟨lb, lo + 1, none⟩ = some (.int .u32 (U b)) ∧ w'.cell? ⟨lb, lo + 2, none⟩ = some (.int .u32 (U c)) ∧ w'.cell? ⟨lb, lo + 3, none⟩ = some (.int .u32 (U d))) w9.drew := ⟨d0, d1, d2, d3⟩
      have BA : Below w.heap.size w w9.drew := B9.drew
      have MA : OU w9.drew w.heap.size v7 (mkR C (k + 1)) := M9
      have LCA : Hid (∀ j, j < 8 → w9.drew.cell? ⟨lb, lo + j, none⟩ = some (.int .u32 (U ((stl ⟨a, b, c, d, e, f, g, h⟩).getD j 0)))) := LC9
      have LTA : lb < w9.drew.heap.size := LT9
      clear B9 M9 LC9 LT9 d0 d1 d2 d3
      generalize w9.drew = wA at hS BA MA LCA LTA ⊢
      refine AnyBut.take (i := 0) (v := ?_) rfl (by kernel_rfl) (by kernel_rfl) (by kernel_rfl) (by kernel_rfl) (fun _ _ _ h => h) (Or.inl ⟨by rfl, ?_⟩) hS ?_
      rotate_left
      · (intro wq hq; go_simp; try with_reducible rfl)
      try simp only [Act.put, List.setIfInBounds_toArray, List.set_cons_zero, List.set_cons_succ, List.getElem_toArray, List.getElem_cons_zero, List.getElem_cons_succ]
      refine AnyBut.take (i := 1) (v := ?_) rfl (by kernel_rfl) (by kernel_rfl) (by kernel_rfl) (by kernel_rfl) (fun _ _ _ h => h) (Or.inl ⟨by rfl, ?_⟩) hS ?_
      rotate_left
      · (intro wq hq; go_simp; try with_reducible rfl)
      try simp only [Act.put, List.setIfInBounds_toArray, List.set_cons_zero, List.set_cons_succ, List.getElem_toArray, List.getElem_cons_zero, List.getElem_cons_succ]
      refine AnyBut.take (i := 2) (v := ?_) rfl (by kernel_rfl) (by kernel_rfl) (by kernel_rfl) (by kernel_rfl) (fun _ _ _ h => h) (Or.inl ⟨by rfl, ?_⟩) hS ?_
      rotate_left
      · (intro wq hq; go_simp; try with_reducible rfl)
      try simp only [Act.put, List.setIfInBounds_toArray, List.set_cons_zero, List.set_cons_succ, List.getElem_toArray, List.getElem_cons_zero, List.getElem_cons_succ]
      refine AnyBut.take (i := 3) (v := ?_) rfl (by kernel_rfl) (by kernel_rfl) (by kernel_rfl) (by kernel_rfl) (fun _ _ _ h => h) (Or.inl ⟨by rfl, ?_⟩) hS ?_
      rotate_left
      · (intro wq hq; go_simp; try with_reducible rfl)
      try simp only [Act.put, List.setIfInBounds_toArray, List.set_cons_zero, List.set_cons_succ, List.getElem_toArray, List.getElem_cons_zero, List.getElem_cons_succ]
      refine AnyBut.take (i := 4) (v := ?_) rfl (by kernel_rfl) (by kernel_rfl) (by kernel_rfl) (by kernel_rfl) (fun _ _ _ h => h) (Or.inl ⟨by rfl, ?_⟩) hS ?_
      rotate_left
      · (intro wq hq; go_simp; try with_reducible rfl)
      try simp only [Act.put, List.setIfInBounds_toArray, List.set_cons_zero, List.set_cons_succ, List.getElem_toArray, List.getElem_cons_zero, List.getElem_cons_succ]
      refine AnyBut.take (i := 5) (v := ?_) rfl (by kernel_rfl) (by kernel_rfl) (by kernel_rfl) (by kernel_rfl) (fun _ _ _ h => h) (Or.inl ⟨by rfl, ?_⟩) hS ?_
      rotate_left
      · (intro wq hq; obtain ⟨hq0, hq1, hq2, hq3⟩ := hq; go_simp; try with_reducible rfl)
      try simp only [Act.put, List.setIfInBounds_toArray, List.set_cons_zero, List.set_cons_succ, List.getElem_toArray, List.getElem_cons_zero, List.getElem_cons_succ]
      refine AnyBut.take (i := 6) (v := ?_) rfl (by kernel_rfl) (by kernel_rfl) (by kernel_rfl) (by kernel_rfl) (fun _ _ _ h => h) (Or.inl ⟨by rfl, ?_⟩) hS ?_
      rotate_left
      · (intro wq hq; go_simp; try with_reducible rfl)
      try simp only [Act.put, List.setIfInBounds_toArray, List.set_cons_zero, List.set_cons_succ, List.getElem_toArray, List.getElem_cons_zero, List.getElem_cons_succ]
      refine AnyBut.take (i := 7) (v := ?_) rfl (by kernel_rfl) (by kernel_rfl) (by kernel_rfl) (by kernel_rfl) (fun _ _ _ h => h) (Or.inl ⟨by rfl, ?_⟩) hS ?_
      rotate_left
      · (intro wq hq; go_simp; try with_reducible rfl)
      try simp only [Act.put, List.setIfInBounds_toArray, List.set_cons_zero, List.set_cons_succ, List.getElem_toArray, List.getElem_cons_zero, List.getElem_cons_succ]
      refine AnyBut.take (i := 8) (v := ?_) rfl (by kernel_rfl) (by kernel_rfl) (by kernel_rfl) (by kernel_rfl) (fun _ _ _ h => h) (Or.inl ⟨by rfl, ?_⟩) hS ?_
      rotate_left
      · (intro wq hq; obtain ⟨hq0, hq1, hq2, hq3⟩ := hq; go_simp; try with_reducible rfl)
      try simp only [Act.put, List.setIfInBounds_toArray, List.set_cons_zero, List.set_cons_succ, List.getElem_toArray, List.getElem_cons_zero, List.getElem_cons_succ]
      refine AnyBut.take (i := 9) (v := ?_) rfl (by kernel_rfl) (by kernel_rfl) (by kernel_rfl) (by kernel_rfl) (fun _ _ _ h => h) (Or.inl ⟨by rfl, ?_⟩) hS ?_
      rotate_left
      · (intro wq hq; go_simp; try with_reducible rfl)
      try simp only [Act.put, List.setIfInBounds_toArray, List.set_cons_zero, List.set_cons_succ, List.getElem_toArray, List.getElem_cons_zero, List.getElem_cons_succ]
      refine AnyBut.take (i := 10) (v := ?_) rfl (by kernel_rfl) (by kernel_rfl) (by kernel_rfl) (by kernel_rfl) (fun _ _ _ h => h) (Or.inl ⟨by rfl, ?_⟩) hS ?_
      rotate_left
      · (intro wq hq; go_simp; try with_reducible rfl)
      try simp only [Act.put, List.setIfInBounds_toArray, List.set_cons_zero, List.set_cons_succ, List.getElem_toArray, List.getElem_cons_zero, List.getElem_cons_succ]
      refine AnyBut.take (i := 11) (v := ?_) rfl (by kernel_rfl) (by kernel_rfl) (by kernel_rfl) (by kernel_rfl) (fun _ _ _ h => h) (Or.inl ⟨by rfl, ?_⟩) hS ?_
      rotate_left
      · (intro wq hq; obtain ⟨hq0, hq1, hq2, hq3⟩ := hq; go_simp; try with_reducible rfl)
      try simp only [Act.put, List.setIfInBounds_toArray, List.set_cons_zero, List.set_cons_succ, List.getElem_toArray, List.getElem_cons_zero, List.getElem_cons_succ]
      refine AnyBut.take (i := 12) (v := ?_) rfl (by kernel_rfl) (by kernel_rfl) (by kernel_rfl) (by kernel_rfl) (fun _ _ _ h => h) (Or.inl ⟨by rfl, ?_⟩) hS ?_
      rotate_left
      · (intro wq hq; go_simp; try with_reducible rfl)
      try simp only [Act.put, List.setIfInBounds_toArray, List.set_cons_zero, List.set_cons_succ, List.getElem_toArray, List.getElem_cons_zero, List.getElem_cons_succ]
      refine AnyBut.take (i := 13) (v := ?_) rfl (by kernel_rfl) (by kernel_rfl) (by kernel_rfl) (by kernel_rfl) (fun _ _ _ h => h) (Or.inl ⟨by rfl, ?_⟩) hS ?_
      rotate_left
      · (intro wq hq; go_simp; try with_reducible rfl)
      try simp only [Act.put, List.setIfInBounds_toArray, List.set_cons_zero, List.set_cons_succ, List.getElem_toArray, List.getElem_cons_zero, List.getElem_cons_succ]
      refine AnyBut.take (i := 14) (v := ?_) rfl (by kernel_rfl) (by kernel_rfl) (by kernel_rfl) (by kernel_rfl) (fun _ _ _ h => h) (Or.inl ⟨by rfl, ?_⟩) hS ?_
      rotate_left
      · (intro wq hq; obtain ⟨hq0, hq1, hq2, hq3⟩ := hq; go_simp; try with_reducible rfl)
      try simp only [Act.put, List.setIfInBounds_toArray, List.set_cons_zero, List.set_cons_succ, List.getElem_toArray, List.getElem_cons_zero, List.getElem_cons_succ]
      refine AnyBut.take (i := 15) (v := ?_) rfl (by kernel_rfl) (by kernel_rfl) (by kernel_rfl) (by kernel_rfl) (fun _ _ _ h => h) (Or.inl ⟨by rfl, ?_⟩) hS ?_
      rotate_left
      · (intro wq hq; go_simp; try with_reducible rfl)
      try simp only [Act.put, List.setIfInBounds_toArray, List.set_cons_zero, List.set_cons_succ, List.getElem_toArray, List.getElem_cons_zero, List.getElem_cons_succ]
      refine AnyBut.take (i := 16) (v := ?_) rfl (by kernel_rfl) (by kernel_rfl) (by kernel_rfl) (by kernel_rfl) (fun _ _ _ h => h) (Or.inl ⟨by rfl, ?_⟩) hS ?_
      rotate_left
      · (intro wq hq; go_simp; try with_reducible rfl)
      try simp only [Act.put, List.setIfInBounds_toArray, List.set_cons_zero, List.set_cons_succ, List.getElem_toArray, List.getElem_cons_zero, List.getElem_cons_succ]
      refine AnyBut.take (i := 18) (v := ?_) rfl (by kernel_rfl) (by kernel_rfl) (by kernel_rfl) (by kernel_rfl) (fun _ _ _ h => h) (Or.inl ⟨by rfl, ?_⟩) hS ?_
      rotate_left
      · (intro wq hq; go_simp; try with_reducible rfl)
      try simp only [Act.put, List.setIfInBounds_toArray, List.set_cons_zero, List.set_cons_succ, List.getElem_toArray, List.getElem_cons_zero, List.getElem_cons_succ]
      refine AnyBut.take (i := 19) (v := ?_) rfl (by kernel_rfl) (by kernel_rfl) (by kernel_rfl) (by kernel_rfl) (fun _ _ _ h => h) (Or.inl ⟨by rfl, ?_⟩) hS ?_
      rotate_left
      · (intro wq hq; go_simp; try with_reducible rfl)
      try simp only [Act.put, List.setIfInBounds_toArray, List.set_cons_zero, List.set_cons_succ, List.getElem_toArray, List.getElem_cons_zero, List.getElem_cons_succ]
      refine AnyBut.gone (i := 17) (by kernel_rfl) rfl (by rfl) (fun K hK => ?_)
      go_simp
      have hS : (fun w' : World => w'.cell? ⟨lb, lo, none⟩ = some (.int .u32 (U a)) ∧ w'.cell? ⟨lb, lo + 1, none⟩ = some (.int .u32 (U b)) ∧ w'.cell? ⟨lb, lo + 2, none⟩ = some (.int .u32 (U c)) ∧ w'.cell? ⟨lb, lo + 3, none⟩ = some (.int .u32 (U d))) (wA.alloc (Obj.cells #[.int .u32 (U (tt + uu)), .int .u32 (U a), .int .u32 (U b), .int .u32 (U c), .int .u32 (U (d + tt))] 40)) := ⟨cell_alloc _ hS.1, cell_alloc _ hS.2.1, cell_alloc _ hS.2.2.1, cell_alloc _ hS.2.2.2⟩
      refine hK _ _ (fun _ => hS) ?_
      clear hK K
      try simp only [Act.put, List.setIfInBounds_toArray, List.set_cons_zero, List.set_cons_succ, List.getElem_toArray, List.getElem_cons_zero, List.getElem_cons_succ]
      have own5 := owns_built47 wA (tt + uu) a b c (d + tt)
      have srcE : Src47 (wA.alloc (Obj.cells #[.int .u32 (U (tt + uu)), .int .u32 (U a), .int .u32 (U b), .int .u32 (U c), .int .u32 (U (d + tt))] 40)) (some ⟨lb, lo + 4, none⟩) 3 (vus [e, f, g]) := ⟨rfl, fun _ => ⟨_, rfl, fun j u hj => by
        have hj3 : j < 3 := by have := (List.getElem?_eq_some_iff.1 hj).1; simpa [vus] using this
        rw [Addr.add_mid]
        refine cell_alloc _ ?_
        have hc := LCA.out (4 + j) (by omega)
        rw [← Nat.add_assoc] at hc
        rw [hc, ← hj]
        have : j = 0 ∨ j = 1 ∨ j = 2 := by omega
        rcases this with rfl | rfl | rfl <;> rfl⟩, vus_one _⟩
      refine AnyBut.gone (i := 20) (by kernel_rfl) rfl (by rfl) (fun K hK => ?_)
      refine wp_app47 (.tmp 117) (.tmp 119) rfl rfl wA.heap.size _ 5 (vus [tt + uu, a, b, c, d + tt]) rfl own5 (some ⟨lb, lo + 4, none⟩) 3 (cap - 4) (vus [e, f, g]) rfl srcE (fun h => by cases h) (by omega) (by simp) ?_
      intro vB wB ownB hgB
      have hne : ∀ q, q < wA.heap.size → some q ≠ Value.ownBlock (.slice (some ⟨wA.heap.size, 0, none⟩) 5 5) := fun q hq h => by simp [Value.ownBlock] at h; omega
      have hS : (fun w' : World => w'.cell? ⟨lb, lo, none⟩ = some (.int .u32 (U a)) ∧ w'.cell? ⟨lb, lo + 1, none⟩ = some (.int .u32 (U b)) ∧ w'.cell? ⟨lb, lo + 2, none⟩ = some (.int .u32 (U c)) ∧ w'.cell? ⟨lb, lo + 3, none⟩ = some (.int .u32 (U d))) wB := ⟨hgB.cell hS.1 (hne _ LTA), hgB.cell hS.2.1 (hne _ LTA), hgB.cell hS.2.2.1 (hne _ LTA), hgB.cell hS.2.2.2 (hne _ LTA)⟩
      refine hK _ _ (fun _ => hS) ?_
      clear hK K
      try simp only [Act.put, List.setIfInBounds_toArray, List.set_cons_zero, List.set_cons_succ, List.getElem_toArray, List.getElem_cons_zero, List.getElem_cons_succ]
      refine AnyBut.gone (i := 21) (by kernel_rfl) rfl (by rfl) (fun K hK => ?_)
      go_simp
      refine hK _ _ (fun h => absurd rfl h) ?_
      clear hK K
      refine AnyBut.done (by kernel_rfl) ?_ _
      dsimp only [Exit.then]
      have ownB' : OU wB wA.heap.size vB (stl (stR C s (k + 1))) := by
        rw [HST.out, stl_rnd]
        show OU wB wA.heap.size vB [h + (e.rotateRight 6 ^^^ e.rotateRight 11 ^^^ e.rotateRight 25) + ((e &&& f) + (~~~ e &&& g)) + Kk + x + ((a.rotateRight 2 ^^^ a.rotateRight 13 ^^^ a.rotateRight 22) + (a &&& b ||| b &&& c ||| c &&& a)), a, b, c, d + (h + (e.rotateRight 6 ^^^ e.rotateRight 11 ^^^ e.rotateRight 25) + ((e &&& f) + (~~~ e &&& g)) + Kk + x), e, f, g]
        rw [← HTT.out, ← HUU.out]
        exact ownB
      obtain ⟨lb2, cap2, rfl, hlb, hlt2, hc8, hcm2, hcl⟩ := ownB'.eight rfl
      have hX2 : CR w C (k + 1) (stR C s (k + 1)) v7 lb2 0 wB := by
        have bA := BA.alloc BA.size (Obj.cells #[.int .u32 (U (tt + uu)), .int .u32 (U a), .int .u32 (U b), .int .u32 (U c), .int .u32 (U (d + tt))] 40)
        refine ⟨bA.grown hgB bA.size (fun g hg => (by have := (World.ownsRow.lt own5 g hg).1; exact Nat.le_trans BA.size this)), ?_, fun g hg => ?_, hlt2, hcl⟩
        · exact World.ownsRow.kept (MA.alloc _) hgB (by
            cases hq : v7.ownBlock with
            | none => exact .inl rfl
            | some q => exact .inr (hne q (World.ownsRow.lt MA q hq).2))
        · have := (World.ownsRow.lt MA g hg).2; omega
      have HX2 := Lib.hid hX2
      clear hX2 ownB' ownB own5 srcE hgB hne hcl BA MA LTA LCA hS
      go_wp2_with fail
      go_roundw
      case rel => exact ⟨k + 1, lb2, 0, cap2, by omega, by simp, rfl, hc8, hcm2, HX2.out⟩
      case measure => simp [intOf]; omega
    · obtain rfl : k = 64 := by omega
      generalize wr = W at HX ⊢
      go_wp2_with fail
      go_loopw [14, 15] (fun vo i wq => ∃ j : Nat, j ≤ 8 ∧ i = .int .i64 j ∧ Below W.heap.size W wq ∧ OU wq W.heap.size vo ((stl (addSt s (stR C s 64))).take j)) (fun _ i _ => 8 - (intOf i).toNat)
      case atStart => exact ⟨0, Nat.zero_le _, rfl, Below.refl _ _, OU.nil _ _⟩
      case round =>
        obtain ⟨j, hj, rfl, hb2', ho2'⟩ := hrel
        by_cases hlt8 : j < 8
        · have j0 : (0 : Int) ≤ (j : Int) := by omega
          have j1 : (j : Int) < 8 := by omega
          obtain ⟨p, hp⟩ : ∃ p, p = (stl s).getD j 0 := ⟨_, rfl⟩
          obtain ⟨q, hq⟩ : ∃ q, q = (stl (stR C s 64)).getD j 0 := ⟨_, rfl⟩
          have cp0 : w.cell? ⟨sb, so + j, none⟩ = some (.int .u32 (U p)) := by rw [hp]; exact HS.out j hlt8
          have cq0 : W.cell? ⟨lb, lo + j, none⟩ = some (.int .u32 (U q)) := by rw [hq]; exact HX.out.l j hlt8
          have cp0 : W.cell? ⟨sb, so + j, none⟩ = some (.int .u32 (U p)) := by rw [HX.out.bel.cell (p := ⟨sb, so + j, none⟩) hs]; exact cp0
          have cp : wr.cell? ⟨sb, so + j, none⟩ = some (.int .u32 (U p)) := by rw [hb2'.cell (p := ⟨sb, so + j, none⟩) (Nat.lt_of_lt_of_le hs HX.out.bel.size)]; exact cp0
          have cq : wr.cell? ⟨lb, lo + j, none⟩ = some (.int .u32 (U q)) := by rw [hb2'.cell (p := ⟨lb, lo + j, none⟩) HX.out.lt]; exact cq0
          have hsum : (stl (addSt s (stR C s 64))).getD j 0 = p + q := by
            rw [hp, hq]
            have : j = 0 ∨ j = 1 ∨ j = 2 ∨ j = 3 ∨ j = 4 ∨ j = 5 ∨ j = 6 ∨ j = 7 := by omega
            rcases this with rfl | rfl | rfl | rfl | rfl | rfl | rfl | rfl <;> rfl
          have HSM := Lib.hid hsum
          have ha : ∀ x y : BitVec 32, (U x + U y) % (4294967296 : Int) = U (x + y) := U_add
          have haw : ∀ x y : BitVec 32, IntKind.u32.wrap (U x + U y) = U (x + y) := fun x y => by rw [IntKind.wrap_u32']; exact U_add x y
          have Hcp := Lib.hid cp0
          have Hcq := Lib.hid cq0
          clear hp hq hsum cp0 cq0
          go_upto_region 16 with fail
          refine wp_calm_any ?_
          refine wp_region_but (z := 12) (fun w' : World => w'.cell? ⟨sb, so + j, none⟩ = some (.int .u32 (U p)) ∧ w'.cell? ⟨lb, lo + j, none⟩ = some (.int .u32 (U q))) (by kernel_rfl) ?_
          have hS : (fun w' : World => w'.cell? ⟨sb, so + j, none⟩ = some (.int .u32 (U p)) ∧ w'.cell? ⟨lb, lo + j, none⟩ = some (.int .u32 (U q))) wr.drew := ⟨cp, cq⟩
          have BD : Below W.heap.size W wr.drew := hb2'.drew
          have OD : OU wr.drew W.heap.size u14 ((stl (addSt s (stR C s 64))).take j) := ho2'
          have HOD := Lib.hid OD
          clear OD
          generalize wr.drew = w8 at hS BD HOD ⊢
          refine AnyBut.take (i := 0) (v := ?_) rfl (by kernel_rfl) (by kernel_rfl) (by kernel_rfl) (by kernel_rfl) (fun _ _ _ h => h) (Or.inl ⟨by rfl, ?_⟩) hS ?_
          rotate_left
          · (intro wq hq; go_simp; try with_reducible rfl)
          try simp only [Act.put, List.setIfInBounds_toArray, List.set_cons_zero, List.set_cons_succ, List.getElem_toArray, List.getElem_cons_zero, List.getElem_cons_succ]
          refine AnyBut.take (i := 1) (v := ?_) rfl (by kernel_rfl) (by kernel_rfl) (by kernel_rfl) (by kernel_rfl) (fun _ _ _ h => h) (Or.inl ⟨by rfl, ?_⟩) hS ?_
          rotate_left
          · (intro wq hq; go_simp; try with_reducible rfl)
          try simp only [Act.put, List.setIfInBounds_toArray, List.set_cons_zero, List.set_cons_succ, List.getElem_toArray, List.getElem_cons_zero, List.getElem_cons_succ]
          refine AnyBut.take (i := 2) (v := ?_) rfl (by kernel_rfl) (by kernel_rfl) (by kernel_rfl) (by kernel_rfl) (fun _ _ _ h => h) (Or.inl ⟨by rfl, ?_⟩) hS ?_
          rotate_left
          · (intro wq hq; go_simp; try with_reducible rfl)
          try simp only [Act.put, List.setIfInBounds_toArray, List.set_cons_zero, List.set_cons_succ, List.getElem_toArray, List.getElem_cons_zero, List.getElem_cons_succ]
          refine AnyBut.take (i := 3) (v := ?_) rfl (by kernel_rfl) (by kernel_rfl) (by kernel_rfl) (by kernel_rfl) (fun _ _ _ h => h) (Or.inl ⟨by rfl, ?_⟩) hS ?_
          rotate_left
          · (intro wq hq; go_simp; try with_reducible rfl)
          try simp only [Act.put, List.setIfInBounds_toArray, List.set_cons_zero, List.set_cons_succ, List.getElem_toArray, List.getElem_cons_zero, List.getElem_cons_succ]
          refine AnyBut.take (i := 4) (v := ?_) rfl (by kernel_rfl) (by kernel_rfl) (by kernel_rfl) (by kernel_rfl) (fun _ _ _ h => h) (Or.inl ⟨by rfl, ?_⟩) hS ?_
          rotate_left
          · (intro wq hq; obtain ⟨hq0, hq1⟩ := hq; go_simp; try with_reducible rfl)
          try simp only [Act.put, List.setIfInBounds_toArray, List.set_cons_zero, List.set_cons_succ, List.getElem_toArray, List.getElem_cons_zero, List.getElem_cons_succ]
          refine AnyBut.take (i := 5) (v := ?_) rfl (by kernel_rfl) (by kernel_rfl) (by kernel_rfl) (by kernel_rfl) (fun _ _ _ h => h) (Or.inl ⟨by rfl, ?_⟩) hS ?_
          rotate_left
          · (intro wq hq; go_simp; try with_reducible rfl)
          try simp only [Act.put, List.setIfInBounds_toArray, List.set_cons_zero, List.set_cons_succ, List.getElem_toArray, List.getElem_cons_zero, List.getElem_cons_succ]
          refine AnyBut.take (i := 6) (v := ?_) rfl (by kernel_rfl) (by kernel_rfl) (by kernel_rfl) (by kernel_rfl) (fun _ _ _ h => h) (Or.inl ⟨by rfl, ?_⟩) hS ?_
          rotate_left
          · (intro wq hq; go_simp; try with_reducible rfl)
          try simp only [Act.put, List.setIfInBounds_toArray, List.set_cons_zero, List.set_cons_succ, List.getElem_toArray, List.getElem_cons_zero, List.getElem_cons_succ]
          refine AnyBut.take (i := 7) (v := ?_) rfl (by kernel_rfl) (by kernel_rfl) (by kernel_rfl) (by kernel_rfl) (fun _ _ _ h => h) (Or.inl ⟨by rfl, ?_⟩) hS ?_
          rotate_left
          · (intro wq hq; go_simp; try with_reducible rfl)
          try simp only [Act.put, List.setIfInBounds_toArray, List.set_cons_zero, List.set_cons_succ, List.getElem_toArray, List.getElem_cons_zero, List.getElem_cons_succ]
          refine AnyBut.take (i := 8) (v := ?_) rfl (by kernel_rfl) (by kernel_rfl) (by kernel_rfl) (by kernel_rfl) (fun _ _ _ h => h) (Or.inl ⟨by rfl, ?_⟩) hS ?_
          rotate_left
          · (intro wq hq; obtain ⟨hq0, hq1⟩ := hq; go_simp; try with_reducible rfl)
          try simp only [Act.put, List.setIfInBounds_toArray, List.set_cons_zero, List.set_cons_succ, List.getElem_toArray, List.getElem_cons_zero, List.getElem_cons_succ]
          refine AnyBut.take (i := 9) (v := ?_) rfl (by kernel_rfl) (by kernel_rfl) (by kernel_rfl) (by kernel_rfl) (fun _ _ _ h => h) (Or.inl ⟨by rfl, ?_⟩) hS ?_
          rotate_left
          · (intro wq hq; go_simp; try with_reducible rfl)
          try simp only [Act.put, List.setIfInBounds_toArray, List.set_cons_zero, List.set_cons_succ, List.getElem_toArray, List.getElem_cons_zero, List.getElem_cons_succ]
          refine AnyBut.gone (i := 10) (by kernel_rfl) rfl (by rfl) (fun K hK => ?_)
          go_simp
          have hS : (fun w' : World => w'.cell? ⟨sb, so + j, none⟩ = some (.int .u32 (U p)) ∧ w'.cell? ⟨lb, lo + j, none⟩ = some (.int .u32 (U q))) (w8.alloc (Obj.cells #[.int .u32 (U (p + q))] 40)) := ⟨cell_alloc _ hS.1, cell_alloc _ hS.2⟩
          refine hK _ _ (fun _ => hS) ?_
          clear hK K
          try simp only [Act.put, List.setIfInBounds_toArray, List.set_cons_zero, List.set_cons_succ, List.getElem_toArray, List.getElem_cons_zero, List.getElem_cons_succ]
          have hbA := BD.alloc BD.size (Obj.cells #[.int .u32 (U (p + q))] 40)
          have own1 : (w8.alloc (Obj.cells #[.int .u32 (U (p + q))] 40)).ownsRow W.heap.size 40 1 u14 ((stl (addSt s (stR C s 64))).take j).length (vus ((stl (addSt s (stR C s 64))).take j)) := HOD.out.alloc _
          have hsA : W.heap.size ≤ (w8.alloc (Obj.cells #[.int .u32 (U (p + q))] 40)).heap.size := Nat.le_trans BD.size (by simp)
          refine AnyBut.gone (i := 11) (by kernel_rfl) rfl (by rfl) (fun K hK => ?_)
          refine wp_app47 (.tmp 125) (.tmp 135) rfl rfl W.heap.size _ _ (vus ((stl (addSt s (stR C s 64))).take j)) rfl own1 (some ⟨w8.heap.size, 0, none⟩) 1 1 (vus [p + q]) rfl (src47_one w8 (p + q)) (fun h => by cases h) (by rw [List.length_take]; omega) hsA ?_
          intro vB wB ownB hgB
          have hbB : Below W.heap.size W wB := hbA.grown hgB hsA (fun g hg => (World.ownsRow.lt own1 g hg).1)
          have hS : (fun w' : World => w'.cell? ⟨sb, so + j, none⟩ = some (.int .u32 (U p)) ∧ w'.cell? ⟨lb, lo + j, none⟩ = some (.int .u32 (U q))) wB := ⟨by show wB.cell? _ = _; rw [hbB.cell (p := ⟨sb, so + j, none⟩) (Nat.lt_of_lt_of_le hs HX.out.bel.size)]; exact Hcp.out, by show wB.cell? _ = _; rw [hbB.cell (p := ⟨lb, lo + j, none⟩) HX.out.lt]; exact Hcq.out⟩
          refine hK _ _ (fun _ => hS) ?_
          clear hK K
          try simp only [Act.put, List.setIfInBounds_toArray, List.set_cons_zero, List.set_cons_succ, List.getElem_toArray, List.getElem_cons_zero, List.getElem_cons_succ]
          refine AnyBut.gone (i := 12) (by kernel_rfl) rfl (by rfl) (fun K hK => ?_)
          go_simp
          refine hK _ _ (fun h => absurd rfl h) ?_
          clear hK K
          refine AnyBut.done (by kernel_rfl) ?_ _
          dsimp only [Exit.then]
          have hown : OU wB W.heap.size vB ((stl (addSt s (stR C s 64))).take (j + 1)) := by
            have e : (stl (addSt s (stR C s 64))).take (j + 1) = (stl (addSt s (stR C s 64))).take j ++ [p + q] := by
              rw [List.take_succ_eq_append_getElem (show j < (stl (addSt s (stR C s 64))).length from hlt8), ← HSM.out]
              simp [List.getD, show j < (stl (addSt s (stR C s 64))).length from hlt8]
            unfold OU
            rw [e, List.length_append, show ∀ (l : List (BitVec 32)), vus (l ++ [p + q]) = vus l ++ vus [p + q] from fun l => by simp [vus]]
            exact ownB
          have HW := Lib.hid hown
          have HBB := Lib.hid hbB
          clear hown hbB ownB own1 hgB hbA hsA BD HOD hS
          go_wp2_with fail
          go_roundw
          case rel => exact ⟨j + 1, by omega, by simp, HBB.out, HW.out⟩
          case measure => simp [intOf]; omega
        · obtain rfl : j = 8 := by omega
          have e8 : (stl (addSt s (stR C s 64))).take 8 = stl (addSt s (stR C s 64)) := rfl
          rw [e8] at ho2'
          have HO2 := Lib.hid ho2'
          have HB2 := Lib.hid hb2'
          clear ho2' hb2' e8
          go_wp2_with fail
          go_ret
          exact ⟨_, rfl, mono_owns HO2.out HX.out.bel.size, HX.out.bel.trans (HB2.out.mono HX.out.bel.size)⟩
end Go.Proofs.YtihbmahjdmfjpaaDoor
