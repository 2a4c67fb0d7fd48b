/- What the document's own Change returns. What the document's own Closing, RoundNumbers, First, Sum and Twice return. What the document's own Put and Bare, and the program's Bare, return. What the law package's given and witnessed return. The law package's awake returns true. The law TxBack returns true for every transaction that may be put, and all bytes behind, in a world whose two tables are as laid. What the rows' proofs ask of the loaded program: closed facts. -/
import Derived.Test.YtnkkhmgplpkjbaaDoorZba
import Derived.Test.YtnkkhmgplpkjbaaDoorZbb
import Derived.Test.YtnkkhmgplpkjbaaDoorZbc
import Derived.Test.YtnkkhmgplpkjbaaDoorZbd
import Derived.Deep.RegionHeld3
import Derived.Deep.DeepCutAuto
import Derived.Lib.AppendZerosOnto
import Derived.Outline
import Derived.Laws.Tables
import Derived.Stop.BytesEq
import Derived.Laws.StructEq
import Derived.Test.YtnkkhmgplpkjbaaDoorRows
import Derived.ProofKit
import Derived.ChangeOld
namespace Go.Proofs.YtnkkhmgplpkjbaaDoor
set_option maxRecDepth 100000
open Go.RowKit
set_option linter.unusedVariables false
set_option linter.unusedSimpArgs false
/-- The state of the loop: l reads as the letters, made holds the numbers. -/
structure CR (w : World) (C : List (BitVec 8)) (k : Nat) (T : St) (vm : Value) (lb lo : Nat) (wq : World) : Prop where
  bel : Below w.heap.size w wq
  made : OU wq w.heap.size vm (mkR C k)
  apart : ∀ g, vm.ownBlock = some g → g ≠ lb
  lt : lb < wq.heap.size
  l : ∀ j, j < 8 → wq.cell? ⟨lb, lo + j, none⟩ = some (.int .u32 (U ((stl T).getD j 0)))
theorem rd_up {w : World} {B B' : Nat} {A : Option Addr} {R : List (BitVec 8)} (h : Rd w B A R) (hB : B ≤ B') : Rd w B' A R := fun hp => by
  obtain ⟨b, o, e, hlt, hc⟩ := h hp
  exact ⟨b, o, e, Nat.lt_of_lt_of_le hlt hB, hc⟩
theorem CR.drewN {w : World} {C : List (BitVec 8)} {k : Nat} {T : St} {vm : Value} {lb lo : Nat} {wq : World} (h : CR w C k T vm lb lo wq) (q : Nat) : CR w C k T vm lb lo (wq.drewN q) :=
  ⟨⟨h.bel.os, h.bel.tape, h.bel.output, h.bel.size, h.bel.block⟩, h.made, h.apart, h.lt, h.l⟩
theorem rnumber_any (C : List (BitVec 8)) (hC : C.length = 64) (Ac : Option Addr) (cc : Nat) (wq : World) (hR : Rd wq wq.heap.size Ac C) (k : Nat) (hk : k < 64) (vm : Value) (B : Nat) (hO : OU wq B vm (mkR C k)) :
    Calls Tryd.prog 100 #[.slice Ac 64 cc, vm, .int .i64 k] wq fun e w' => e = .returned (.int .u32 (U (Wd C k))) ∧ ∃ q, w' = wq.drewN q := by
  by_cases h : k < 16
  · rw [Wd_lo C k h]
    exact (rnumber_lo C Ac 64 cc vm k wq (by omega) hC.symm hR h).mono fun e w' hp => ⟨hp.1, 0, by rw [← hp.2]; rfl⟩
  · obtain ⟨A, cap, rfl, hR2, _⟩ := hO.rd
    have := rnumber_hi (mkR C k) A (mkR C k).length cap (.slice Ac 64 cc) k wq rfl hR2 (by omega) (by rw [mkR_len]; omega) (by omega)
    rw [Wd_hi C k (by omega)]
    rwa [mkR_get C k _ (by omega), mkR_get C k _ (by omega), mkR_get C k _ (by omega), mkR_get C k _ (by omega)] at this
theorem OU.eight {w : World} {B : Nat} {v : Value} {M : List (BitVec 32)} (h : OU w B v M) (hM : M.length = 8) : ∃ g cap, v = .slice (some ⟨g, 0, none⟩) 8 cap ∧ B ≤ g ∧ g < w.heap.size ∧ 8 ≤ cap ∧ cap ≤ 9223372036854775807 ∧ ∀ j, j < 8 → w.cell? ⟨g, 0 + j, none⟩ = some (.int .u32 (U (M.getD j 0))) := by
  rcases h.2 with ⟨rfl, h0⟩ | ⟨g, cap, cur, rfl, hb, hg, hn, hm, hcs, ht⟩
  · omega
  · refine ⟨g, cap, by rw [hM], hb, (Array.getElem?_eq_some_iff.1 hg).1, by omega, by unfold maxLen at hm; omega, fun j hj => ?_⟩
    have h1 := World.ownsRow.cells h (g := g) rfl j (.int .u32 (U (M.getD j 0))) (vus_at (by omega))
    rwa [Addr.add_mid] at h1
theorem owns_built47 (w : World) (x0 x1 x2 x3 x4 : BitVec 32) : (w.alloc (.cells #[.int .u32 (U x0), .int .u32 (U x1), .int .u32 (U x2), .int .u32 (U x3), .int .u32 (U x4)] 22)).ownsRow w.heap.size 22 1 (.slice (some ⟨w.heap.size, 0, none⟩) 5 5) 5 (vus [x0, x1, x2, x3, x4]) :=
  ⟨rfl, .inr ⟨w.heap.size, 5, _, rfl, Nat.le_refl _, heap_alloc_new w _, Nat.le_refl _, by unfold maxLen; omega, rfl, rfl⟩⟩
theorem mono_owns {w : World} {base base' : Nat} {e : TypeId} {size : Nat} {v : Value} {n : Nat} {xs : List Value} (h : w.ownsRow base e size v n xs) (hb : base' ≤ base) : w.ownsRow base' e size v n xs :=
  ⟨h.1, h.2.imp id fun ⟨g, cap, cur, h1, h2, h3⟩ => ⟨g, cap, cur, h1, Nat.le_trans hb h2, h3⟩⟩
theorem stl_rnd (T : St) (K x : BitVec 32) : stl (rnd T K x) = [T.h + (T.e.rotateRight 6 ^^^ T.e.rotateRight 11 ^^^ T.e.rotateRight 25) + ((T.e &&& T.f) + (~~~ T.e &&& T.g)) + K + x + ((T.a.rotateRight 2 ^^^ T.a.rotateRight 13 ^^^ T.a.rotateRight 22) + (T.a &&& T.b ||| T.b &&& T.c ||| T.c &&& T.a)), T.a, T.b, T.c,
    T.d + (T.h + (T.e.rotateRight 6 ^^^ T.e.rotateRight 11 ^^^ T.e.rotateRight 25) + ((T.e &&& T.f) + (~~~ T.e &&& T.g)) + K + x), T.e, T.f, T.g] := by
  unfold stl rnd
  rw [trn3, trn3, ch_or, maj_or]
set_option maxRecDepth 100000 in
set_option maxHeartbeats 8000000 in
theorem rchange_walk (C : List (BitVec 8)) (hC : C.length = 64) (s : St) (sb so c0 : Nat) (Ac : Option Addr) (cc : Nat) (kb ko kc : Nat) (w : World)
    (hs : sb < w.heap.size) (hs8 : 8 ≤ c0) (hsm : c0 ≤ 9223372036854775807) (hsc : ∀ j, j < 8 → w.cell? ⟨sb, so + j, none⟩ = some (.int .u32 (U ((stl s).getD j 0))))
    (hR : Rd w w.heap.size Ac C) (hk : kb < w.heap.size) (hkc : ∀ j, j < 64 → w.cell? ⟨kb, ko + j, none⟩ = some (.int .u32 (U (KK.getD j 0)))) :
    Calls Tryd.prog 81 #[.slice (some ⟨sb, so, none⟩) 8 c0, .slice Ac 64 cc, .slice (some ⟨kb, ko, none⟩) 64 kc] w fun e w' =>
      ∃ v, e = .returned v ∧ OU w' w.heap.size v (stl (addSt s (stR C s 64))) ∧ Below w.heap.size w w' := by
  have HS := Lib.hid hsc
  have HK := Lib.hid hkc
  have HC := Lib.hid hR
  have HCl := Lib.hid hC
  have HST : Hid (CR w C 0 s (.slice none 0 0) sb so w) := ⟨Below.refl _ _, OU.nil _ _, fun g h => (by cases h), hs, hsc⟩
  have HCR := Lib.hid (⟨8, c0, hs8, hsm⟩ : ∃ a b : Nat, 8 ≤ b ∧ b ≤ 9223372036854775807)
  clear hsc hkc hR
  go_enter Tryd.func81, Tryd.ntmps81
  go_wp2_with fail
  go_loopw [7, 8, 9] (fun vm vl i wq => ∃ (k lb lo cap : Nat), k ≤ 64 ∧ i = .int .i64 k ∧ vl = .slice (some ⟨lb, lo, none⟩) 8 cap ∧ 8 ≤ cap ∧ cap ≤ 9223372036854775807 ∧ CR w C k (stR C s k) vm lb lo wq) (fun _ _ i _ => 64 - (intOf i).toNat)
  case atStart => exact ⟨0, sb, so, c0, Nat.zero_le _, rfl, rfl, hs8, hsm, HST.out⟩
  case round =>
    obtain ⟨k, lb, lo, cap, hk64, rfl, rfl, hcap, hcm, hX⟩ := hrel
    have HX := Lib.hid hX
    clear HST HCR hX
    by_cases hlt : k < 64
    · have k1 : (k : Int) < 64 := by omega
      have hM := rnumber_any C HCl.out Ac cc wr (rd_up (HC.out.keep HX.out.bel) HX.out.bel.size) k hlt u7 w.heap.size HX.out.made
      have HM := Lib.hid hM
      clear hM
      go_upto_region 7 with (go_at_call 100; (with_reducible refine HM.out.mono ?_); rintro e w1 ⟨rfl, q, rfl⟩; dsimp only)
      have HX2 := Lib.hid (HX.out.drewN q)
      clear HX HM
      generalize wr.drewN q = w1 at HX2 ⊢
      obtain ⟨x, hx⟩ : ∃ x, x = Wd C k := ⟨_, rfl⟩
      have Hx := Lib.hid hx
      rw [← hx]
      clear hx
      have HO := Lib.hid (show (w1.alloc (.cells #[.int .u32 (U x)] 22)).ownsRow w.heap.size 22 1 u7 (mkR C k).length (vus (mkR C k)) from HX2.out.made.alloc (.cells #[.int .u32 (U x)] 22))
      have hs1 := Lib.hid (src47_one w1 x)
      have hBs := Lib.hid (show w.heap.size ≤ (w1.alloc (.cells #[.int .u32 (U x)] 22)).heap.size from Nat.le_trans HX2.out.bel.size (by simp))
      have hLn := Lib.hid (show (mkR C k).length + 1 ≤ 35184372088832 by rw [mkR_len]; omega)
      go_upto_region 8 with (refine wpList_app47 (o := ⟨some 28, _, _, _, _, _⟩) rfl (.tmp 25) (.tmp 27) rfl rfl w.heap.size u7 (mkR C k).length (vus (mkR C k)) rfl HO.out (some ⟨w1.heap.size, 0, none⟩) 1 1 (vus [x]) rfl hs1.out (fun h => by cases h) hLn.out hBs.out ?_; intro v7 w7 own7 hg7)
      have B7 : Below w.heap.size w w7 := (HX2.out.bel.alloc HX2.out.bel.size _).grown hg7 hBs.out (fun g hg => (World.ownsRow.lt HO.out g hg).1)
      have M7 : OU w7 w.heap.size v7 (mkR C (k + 1)) := by
        unfold OU
        show w7.ownsRow w.heap.size 22 1 v7 (mkR C k ++ [Wd C k]).length (vus (mkR C k ++ [Wd C k]))
        rw [List.length_append, ← Hx.out, show vus (mkR C k ++ [x]) = vus (mkR C k) ++ vus [x] by simp [vus]]
        exact own7
      have LC7' : ∀ j, j < 8 → w7.cell? ⟨lb, lo + j, none⟩ = some (.int .u32 (U ((stl (stR C s k)).getD j 0))) := fun j hj =>
        hg7.cell (cell_alloc _ (HX2.out.l j hj)) (fun h => HX2.out.apart _ h.symm rfl)
      have LC7 := Lib.hid LC7'
      clear LC7'
      have LT7 : lb < w7.heap.size := Nat.lt_of_lt_of_le (Nat.lt_of_lt_of_le HX2.out.lt (by simp)) hg7.size
      have KK7 : w7.cell? ⟨kb, ko + k, none⟩ = some (.int .u32 (U (KK.getD k 0))) := by rw [B7.cell (p := ⟨kb, ko + k, none⟩) hk]; exact HK.out k hlt
      have AP7 : True := trivial
      clear HO hs1 hBs hLn own7 hg7 HX2
      have hst : stR C s (k + 1) = rnd (stR C s k) (KK.getD k 0) x := by rw [Hx.out]; rfl
      have HST := Lib.hid hst
      clear hst
      obtain ⟨Kk, hKk⟩ : ∃ Kk, Kk = KK.getD k 0 := ⟨_, rfl⟩
      rw [← hKk] at KK7 HST
      clear hKk
      obtain ⟨T, hT⟩ : ∃ T, T = stR C s k := ⟨_, rfl⟩
      rw [← hT] at LC7 HST
      clear hT Hx
      obtain ⟨a, b, c, d, e, f, g, h⟩ := T
      have ha : ∀ x y : BitVec 32, (U x + U y) % (4294967296 : Int) = U (x + y) := U_add
      have hxa := U_and
      have hxo := U_or
      have hnt := U_not
      have haw : ∀ x y : BitVec 32, IntKind.u32.wrap (U x + U y) = U (x + y) := fun x y => by rw [IntKind.wrap_u32']; exact U_add x y
      have hntw : ∀ x : BitVec 32, IntKind.u32.wrap (4294967295 - U x) = U (~~~ x) := fun x => by rw [IntKind.wrap_u32']; exact U_not x
      have d4 : w7.cell? ⟨lb, lo + 4, none⟩ = some (.int .u32 (U e)) := LC7.out 4 (by omega)
      have k0 : (0 : Int) ≤ (k : Int) := by omega
      go_upto_region 9 with fail
      have d7 : w7.cell? ⟨lb, lo + 7, none⟩ = some (.int .u32 (U h)) := LC7.out 7 (by omega)
      have d5 : w7.cell? ⟨lb, lo + 5, none⟩ = some (.int .u32 (U f)) := LC7.out 5 (by omega)
      have d6 : w7.cell? ⟨lb, lo + 6, none⟩ = some (.int .u32 (U g)) := LC7.out 6 (by omega)
      have kk := KK7
      have r6 : ∀ (x : BitVec 32) wq, Calls Tryd.prog 102 #[.int .u32 (U x), .int .i64 6] wq fun e w' => e = .returned (.int .u32 (U (x.rotateRight 6))) ∧ wq = w' := fun x wq => right_any x 6 (by omega) wq
      have r11 : ∀ (x : BitVec 32) wq, Calls Tryd.prog 102 #[.int .u32 (U x), .int .i64 11] wq fun e w' => e = .returned (.int .u32 (U (x.rotateRight 11))) ∧ wq = w' := fun x wq => right_any x 11 (by omega) wq
      have r25 : ∀ (x : BitVec 32) wq, Calls Tryd.prog 102 #[.int .u32 (U x), .int .i64 25] wq fun e w' => e = .returned (.int .u32 (U (x.rotateRight 25))) ∧ wq = w' := fun x wq => right_any x 25 (by omega) wq
      have r2 : ∀ (x : BitVec 32) wq, Calls Tryd.prog 102 #[.int .u32 (U x), .int .i64 2] wq fun e w' => e = .returned (.int .u32 (U (x.rotateRight 2))) ∧ wq = w' := fun x wq => right_any x 2 (by omega) wq
      have r13 : ∀ (x : BitVec 32) wq, Calls Tryd.prog 102 #[.int .u32 (U x), .int .i64 13] wq fun e w' => e = .returned (.int .u32 (U (x.rotateRight 13))) ∧ wq = w' := fun x wq => right_any x 13 (by omega) wq
      have r22 : ∀ (x : BitVec 32) wq, Calls Tryd.prog 102 #[.int .u32 (U x), .int .i64 22] wq fun e w' => e = .returned (.int .u32 (U (x.rotateRight 22))) ∧ wq = w' := fun x wq => right_any x 22 (by omega) wq
      clear d4
      refine wp_calm ?_
      refine wp_region_but (z := 31) (fun w' : World => w'.cell? ⟨lb, lo + 7, none⟩ = some (.int .u32 (U h)) ∧ w'.cell? ⟨lb, lo + 5, none⟩ = some (.int .u32 (U f)) ∧ w'.cell? ⟨lb, lo + 6, none⟩ = some (.int .u32 (U g)) ∧ w'.cell? ⟨kb, ko + k, none⟩ = some (.int .u32 (U Kk))) (by kernel_rfl) ?_
      have hS : (fun w' : World => w'.cell? ⟨lb, lo + 7, none⟩ = some (.int .u32 (U h)) ∧ w'.cell? ⟨lb, lo + 5, none⟩ = some (.int .u32 (U f)) ∧ w'.cell? ⟨lb, lo + 6, none⟩ = some (.int .u32 (U g)) ∧ w'.cell? ⟨kb, ko + k, none⟩ = some (.int .u32 (U Kk))) w7.drew := ⟨d7, d5, d6, kk⟩
      have B8 : Below w.heap.size w w7.drew := B7.drew
      have M8 : OU w7.drew w.heap.size v7 (mkR C (k + 1)) := M7
      have LC8 : Hid (∀ j, j < 8 → w7.drew.cell? ⟨lb, lo + j, none⟩ = some (.int .u32 (U ((stl ⟨a, b, c, d, e, f, g, h⟩).getD j 0)))) := LC7
      have LT8 : lb < w7.drew.heap.size := LT7
      clear B7 M7 LC7 LT7 AP7 KK7 kk d5 d6 d7
      generalize w7.drew = w8 at hS B8 M8 LC8 LT8 ⊢
      refine AnyBut.take (i := 0) (v := ?_) rfl (by kernel_rfl) (by kernel_rfl) (by kernel_rfl) (by kernel_rfl) (fun _ _ _ h => h) (Or.inl ⟨by rfl, ?_⟩) hS ?_
      rotate_left
      · (intro wq hq; go_simp; try with_reducible rfl)
      try simp only [Act.put, List.setIfInBounds_toArray, List.set_cons_zero, List.set_cons_succ, List.getElem_toArray, List.getElem_cons_zero, List.getElem_cons_succ]
      refine AnyBut.take (i := 1) (v := ?_) rfl (by kernel_rfl) (by kernel_rfl) (by kernel_rfl) (by kernel_rfl) (fun _ _ _ h => h) (Or.inl ⟨by rfl, ?_⟩) hS ?_
      rotate_left
      · (intro wq hq; go_simp; try with_reducible rfl)
      try simp only [Act.put, List.setIfInBounds_toArray, List.set_cons_zero, List.set_cons_succ, List.getElem_toArray, List.getElem_cons_zero, List.getElem_cons_succ]
      refine AnyBut.take (i := 2) (v := ?_) rfl (by kernel_rfl) (by kernel_rfl) (by kernel_rfl) (by kernel_rfl) (fun _ _ _ h => h) (Or.inl ⟨by rfl, ?_⟩) hS ?_
      rotate_left
      · (intro wq hq; obtain ⟨hq0, hq1, hq2, hq3⟩ := hq; go_simp; try with_reducible rfl)
      try simp only [Act.put, List.setIfInBounds_toArray, List.set_cons_zero, List.set_cons_succ, List.getElem_toArray, List.getElem_cons_zero, List.getElem_cons_succ]
      refine AnyBut.take (i := 3) (v := ?_) rfl (by kernel_rfl) (by kernel_rfl) (by kernel_rfl) (by kernel_rfl) (fun _ _ _ h => h) (Or.inl ⟨by rfl, ?_⟩) hS ?_
      rotate_left
      · (intro wq hq; go_simp; try with_reducible rfl)
      try simp only [Act.put, List.setIfInBounds_toArray, List.set_cons_zero, List.set_cons_succ, List.getElem_toArray, List.getElem_cons_zero, List.getElem_cons_succ]
      refine AnyBut.take (i := 5) (v := ?_) rfl (by kernel_rfl) (by kernel_rfl) (by kernel_rfl) (by kernel_rfl) (fun _ _ _ h => h) (Or.inl ⟨by rfl, ?_⟩) hS ?_
      rotate_left
      · (intro wq hq; go_simp; try with_reducible rfl)
      try simp only [Act.put, List.setIfInBounds_toArray, List.set_cons_zero, List.set_cons_succ, List.getElem_toArray, List.getElem_cons_zero, List.getElem_cons_succ]
      refine AnyBut.take (i := 7) (v := ?_) rfl (by kernel_rfl) (by kernel_rfl) (by kernel_rfl) (by kernel_rfl) (fun _ _ _ h => h) (Or.inl ⟨by rfl, ?_⟩) hS ?_
      rotate_left
      · (intro wq hq; go_simp; try with_reducible rfl)
      try simp only [Act.put, List.setIfInBounds_toArray, List.set_cons_zero, List.set_cons_succ, List.getElem_toArray, List.getElem_cons_zero, List.getElem_cons_succ]
      refine AnyBut.take (i := 11) (v := ?_) rfl (by kernel_rfl) (by kernel_rfl) (by kernel_rfl) (by kernel_rfl) (fun _ _ _ h => h) (Or.inl ⟨by rfl, ?_⟩) hS ?_
      rotate_left
      · (intro wq hq; go_simp; try with_reducible rfl)
      try simp only [Act.put, List.setIfInBounds_toArray, List.set_cons_zero, List.set_cons_succ, List.getElem_toArray, List.getElem_cons_zero, List.getElem_cons_succ]
      refine AnyBut.take (i := 12) (v := ?_) rfl (by kernel_rfl) (by kernel_rfl) (by kernel_rfl) (by kernel_rfl) (fun _ _ _ h => h) (Or.inl ⟨by rfl, ?_⟩) hS ?_
      rotate_left
      · (intro wq hq; go_simp; try with_reducible rfl)
      try simp only [Act.put, List.setIfInBounds_toArray, List.set_cons_zero, List.set_cons_succ, List.getElem_toArray, List.getElem_cons_zero, List.getElem_cons_succ]
      refine AnyBut.take (i := 13) (v := ?_) rfl (by kernel_rfl) (by kernel_rfl) (by kernel_rfl) (by kernel_rfl) (fun _ _ _ h => h) (Or.inl ⟨by rfl, ?_⟩) hS ?_
      rotate_left
      · (intro wq hq; go_simp; try with_reducible rfl)
      try simp only [Act.put, List.setIfInBounds_toArray, List.set_cons_zero, List.set_cons_succ, List.getElem_toArray, List.getElem_cons_zero, List.getElem_cons_succ]
      refine AnyBut.take (i := 14) (v := ?_) rfl (by kernel_rfl) (by kernel_rfl) (by kernel_rfl) (by kernel_rfl) (fun _ _ _ h => h) (Or.inl ⟨by rfl, ?_⟩) hS ?_
      rotate_left
      · (intro wq hq; obtain ⟨hq0, hq1, hq2, hq3⟩ := hq; go_simp; try with_reducible rfl)
      try simp only [Act.put, List.setIfInBounds_toArray, List.set_cons_zero, List.set_cons_succ, List.getElem_toArray, List.getElem_cons_zero, List.getElem_cons_succ]
      refine AnyBut.take (i := 15) (v := ?_) rfl (by kernel_rfl) (by kernel_rfl) (by kernel_rfl) (by kernel_rfl) (fun _ _ _ h => h) (Or.inl ⟨by rfl, ?_⟩) hS ?_
      rotate_left
      · (intro wq hq; go_simp; try with_reducible rfl)
      try simp only [Act.put, List.setIfInBounds_toArray, List.set_cons_zero, List.set_cons_succ, List.getElem_toArray, List.getElem_cons_zero, List.getElem_cons_succ]
      refine AnyBut.take (i := 16) (v := ?_) rfl (by kernel_rfl) (by kernel_rfl) (by kernel_rfl) (by kernel_rfl) (fun _ _ _ h => h) (Or.inl ⟨by rfl, ?_⟩) hS ?_
      rotate_left
      · (intro wq hq; go_simp; try with_reducible rfl)
      try simp only [Act.put, List.setIfInBounds_toArray, List.set_cons_zero, List.set_cons_succ, List.getElem_toArray, List.getElem_cons_zero, List.getElem_cons_succ]
      refine AnyBut.take (i := 17) (v := ?_) rfl (by kernel_rfl) (by kernel_rfl) (by kernel_rfl) (by kernel_rfl) (fun _ _ _ h => h) (Or.inl ⟨by rfl, ?_⟩) hS ?_
      rotate_left
      · (intro wq hq; go_simp; try with_reducible rfl)
      try simp only [Act.put, List.setIfInBounds_toArray, List.set_cons_zero, List.set_cons_succ, List.getElem_toArray, List.getElem_cons_zero, List.getElem_cons_succ]
      refine AnyBut.take (i := 18) (v := ?_) rfl (by kernel_rfl) (by kernel_rfl) (by kernel_rfl) (by kernel_rfl) (fun _ _ _ h => h) (Or.inl ⟨by rfl, ?_⟩) hS ?_
      rotate_left
      · (intro wq hq; go_simp; try with_reducible rfl)
      try simp only [Act.put, List.setIfInBounds_toArray, List.set_cons_zero, List.set_cons_succ, List.getElem_toArray, List.getElem_cons_zero, List.getElem_cons_succ]
      refine AnyBut.take (i := 19) (v := ?_) rfl (by kernel_rfl) (by kernel_rfl) (by kernel_rfl) (by kernel_rfl) (fun _ _ _ h => h) (Or.inl ⟨by rfl, ?_⟩) hS ?_
      rotate_left
      · (intro wq hq; go_simp; try with_reducible rfl)
      try simp only [Act.put, List.setIfInBounds_toArray, List.set_cons_zero, List.set_cons_succ, List.getElem_toArray, List.getElem_cons_zero, List.getElem_cons_succ]
      refine AnyBut.take (i := 20) (v := ?_) rfl (by kernel_rfl) (by kernel_rfl) (by kernel_rfl) (by kernel_rfl) (fun _ _ _ h => h) (Or.inl ⟨by rfl, ?_⟩) hS ?_
      rotate_left
      · (intro wq hq; obtain ⟨hq0, hq1, hq2, hq3⟩ := hq; go_simp; try with_reducible rfl)
      try simp only [Act.put, List.setIfInBounds_toArray, List.set_cons_zero, List.set_cons_succ, List.getElem_toArray, List.getElem_cons_zero, List.getElem_cons_succ]
      refine AnyBut.take (i := 21) (v := ?_) rfl (by kernel_rfl) (by kernel_rfl) (by kernel_rfl) (by kernel_rfl) (fun _ _ _ h => h) (Or.inl ⟨by rfl, ?_⟩) hS ?_
      rotate_left
      · (intro wq hq; go_simp; try with_reducible rfl)
      try simp only [Act.put, List.setIfInBounds_toArray, List.set_cons_zero, List.set_cons_succ, List.getElem_toArray, List.getElem_cons_zero, List.getElem_cons_succ]
      refine AnyBut.take (i := 22) (v := ?_) rfl (by kernel_rfl) (by kernel_rfl) (by kernel_rfl) (by kernel_rfl) (fun _ _ _ h => h) (Or.inl ⟨by rfl, ?_⟩) hS ?_
      rotate_left
      · (intro wq hq; go_simp; try with_reducible rfl)
      try simp only [Act.put, List.setIfInBounds_toArray, List.set_cons_zero, List.set_cons_succ, List.getElem_toArray, List.getElem_cons_zero, List.getElem_cons_succ]
      refine AnyBut.take (i := 24) (v := ?_) rfl (by kernel_rfl) (by kernel_rfl) (by kernel_rfl) (by kernel_rfl) (fun _ _ _ h => h) (Or.inl ⟨by rfl, ?_⟩) hS ?_
      rotate_left
      · (intro wq hq; go_simp; try with_reducible rfl)
      try simp only [Act.put, List.setIfInBounds_toArray, List.set_cons_zero, List.set_cons_succ, List.getElem_toArray, List.getElem_cons_zero, List.getElem_cons_succ]
      refine AnyBut.take (i := 25) (v := ?_) rfl (by kernel_rfl) (by kernel_rfl) (by kernel_rfl) (by kernel_rfl) (fun _ _ _ h => h) (Or.inl ⟨by rfl, ?_⟩) hS ?_
      rotate_left
      · (intro wq hq; go_simp; try with_reducible rfl)
      try simp only [Act.put, List.setIfInBounds_toArray, List.set_cons_zero, List.set_cons_succ, List.getElem_toArray, List.getElem_cons_zero, List.getElem_cons_succ]
      refine AnyBut.take (i := 26) (v := ?_) rfl (by kernel_rfl) (by kernel_rfl) (by kernel_rfl) (by kernel_rfl) (fun _ _ _ h => h) (Or.inl ⟨by rfl, ?_⟩) hS ?_
      rotate_left
      · (intro wq hq; go_simp; try with_reducible rfl)
      try simp only [Act.put, List.setIfInBounds_toArray, List.set_cons_zero, List.set_cons_succ, List.getElem_toArray, List.getElem_cons_zero, List.getElem_cons_succ]
      refine AnyBut.take (i := 27) (v := ?_) rfl (by kernel_rfl) (by kernel_rfl) (by kernel_rfl) (by kernel_rfl) (fun _ _ _ h => h) (Or.inl ⟨by rfl, ?_⟩) hS ?_
      rotate_left
      · (intro wq hq; obtain ⟨hq0, hq1, hq2, hq3⟩ := hq; go_simp; try with_reducible rfl)
      try simp only [Act.put, List.setIfInBounds_toArray, List.set_cons_zero, List.set_cons_succ, List.getElem_toArray, List.getElem_cons_zero, List.getElem_cons_succ]
      refine AnyBut.take (i := 29) (v := ?_) rfl (by kernel_rfl) (by kernel_rfl) (by kernel_rfl) (by kernel_rfl) (fun _ _ _ h => h) (Or.inl ⟨by rfl, ?_⟩) hS ?_
      rotate_left
      · (intro wq hq; go_simp; try with_reducible rfl)
      try simp only [Act.put, List.setIfInBounds_toArray, List.set_cons_zero, List.set_cons_succ, List.getElem_toArray, List.getElem_cons_zero, List.getElem_cons_succ]
      refine AnyBut.gone (i := 4) (by kernel_rfl) rfl (by rfl) (fun K hK => ?_)
      go_simp
      (with_reducible refine (r6 _ _).mono ?_)
      rintro e wz ⟨rfl, rfl⟩
      dsimp only
      refine hK _ _ (fun _ => hS) ?_
      clear hK K
      try simp only [Act.put, List.setIfInBounds_toArray, List.set_cons_zero, List.set_cons_succ, List.getElem_toArray, List.getElem_cons_zero, List.getElem_cons_succ]
      refine AnyBut.gone (i := 6) (by kernel_rfl) rfl (by rfl) (fun K hK => ?_)
      go_simp
      (with_reducible refine (r11 _ _).mono ?_)
      rintro e wz ⟨rfl, rfl⟩
      dsimp only
      refine hK _ _ (fun _ => hS) ?_
      clear hK K
      try simp only [Act.put, List.setIfInBounds_toArray, List.set_cons_zero, List.set_cons_succ, List.getElem_toArray, List.getElem_cons_zero, List.getElem_cons_succ]
      refine AnyBut.gone (i := 8) (by kernel_rfl) rfl (by rfl) (fun K hK => ?_)
      go_simp
      (with_reducible refine (r25 _ _).mono ?_)
      rintro e wz ⟨rfl, rfl⟩
      dsimp only
      refine hK _ _ (fun _ => hS) ?_
      clear hK K
      try simp only [Act.put, List.setIfInBounds_toArray, List.set_cons_zero, List.set_cons_succ, List.getElem_toArray, List.getElem_cons_zero, List.getElem_cons_succ]
      refine AnyBut.gone (i := 9) (by kernel_rfl) rfl (by rfl) (fun K hK => ?_)
      go_simp
      (with_reducible refine (three_any _ _ _ _).mono ?_)
      rintro e wz ⟨rfl, rfl⟩
      dsimp only
      refine hK _ _ (fun _ => hS) ?_
      clear hK K
      try simp only [Act.put, List.setIfInBounds_toArray, List.set_cons_zero, List.set_cons_succ, List.getElem_toArray, List.getElem_cons_zero, List.getElem_cons_succ]
      refine AnyBut.take (i := 10) (v := ?_) rfl (by kernel_rfl) (by kernel_rfl) (by kernel_rfl) (by kernel_rfl) (fun _ _ _ h => h) (Or.inl ⟨by rfl, ?_⟩) hS ?_
      rotate_left
      · (intro wq hq; go_simp; try with_reducible rfl)
      try simp only [Act.put, List.setIfInBounds_toArray, List.set_cons_zero, List.set_cons_succ, List.getElem_toArray, List.getElem_cons_zero, List.getElem_cons_succ]
      refine AnyBut.take (i := 23) (v := ?_) rfl (by kernel_rfl) (by kernel_rfl) (by kernel_rfl) (by kernel_rfl) (fun _ _ _ h => h) (Or.inl ⟨by rfl, ?_⟩) hS ?_
      rotate_left
      · (intro wq hq; go_simp; try with_reducible rfl)
      try simp only [Act.put, List.setIfInBounds_toArray, List.set_cons_zero, List.set_cons_succ, List.getElem_toArray, List.getElem_cons_zero, List.getElem_cons_succ]
      refine AnyBut.take (i := 28) (v := ?_) rfl (by kernel_rfl) (by kernel_rfl) (by kernel_rfl) (by kernel_rfl) (fun _ _ _ h => h) (Or.inl ⟨by rfl, ?_⟩) hS ?_
      rotate_left
      · (intro wq hq; go_simp; try with_reducible rfl)
      try simp only [Act.put, List.setIfInBounds_toArray, List.set_cons_zero, List.set_cons_succ, List.getElem_toArray, List.getElem_cons_zero, List.getElem_cons_succ]
      refine AnyBut.take (i := 30) (v := ?_) rfl (by kernel_rfl) (by kernel_rfl) (by kernel_rfl) (by kernel_rfl) (fun _ _ _ h => h) (Or.inl ⟨by rfl, ?_⟩) hS ?_
      rotate_left
      · (intro wq hq; go_simp; try with_reducible rfl)
      try simp only [Act.put, List.setIfInBounds_toArray, List.set_cons_zero, List.set_cons_succ, List.getElem_toArray, List.getElem_cons_zero, List.getElem_cons_succ]
      refine AnyBut.gone (i := 31) (by kernel_rfl) rfl (by rfl) (fun K hK => ?_)
      go_simp
      refine hK _ _ (fun h => absurd rfl h) ?_
      clear hK K
      refine AnyBut.done (by kernel_rfl) ?_ _
      dsimp only [Exit.then]
      clear hS
      obtain ⟨tt, htt⟩ : ∃ tt, tt = h + (e.rotateRight 6 ^^^ e.rotateRight 11 ^^^ e.rotateRight 25) + ((e &&& f) + (~~~ e &&& g)) + Kk + x := ⟨_, rfl⟩
      have HTT := Lib.hid htt
      rw [← htt]
      clear htt
      go_upto_region 10 with fail
      have d0 : w8.cell? ⟨lb, lo, none⟩ = some (.int .u32 (U a)) := LC8.out 0 (by omega)
      have d1 : w8.cell? ⟨lb, lo + 1, none⟩ = some (.int .u32 (U b)) := LC8.out 1 (by omega)
      have d2 : w8.cell? ⟨lb, lo + 2, none⟩ = some (.int .u32 (U c)) := LC8.out 2 (by omega)
      refine wp_calm ?_
      refine wp_region_but (z := 37) (fun w' : World => w'.cell? ⟨lb, lo, none⟩ = some (.int .u32 (U a)) ∧ w'.cell? ⟨lb, lo + 1, none⟩ = some (.int .u32 (U b)) ∧ w'.cell? ⟨lb, lo + 2, none⟩ = some (.int .u32 (U c))) (by kernel_rfl) ?_
      have hS : (fun w' : World => w'.cell? ⟨lb, lo, none⟩ = some (.int .u32 (U a)) ∧ w'.cell? ⟨lb, lo + 1, none⟩ = some (.int .u32 (U b)) ∧ w'.cell? ⟨lb, lo + 2, none⟩ = some (.int .u32 (U c))) w8.drew := ⟨d0, d1, d2⟩
      have B9 : Below w.heap.size w w8.drew := B8.drew
      have M9 : OU w8.drew w.heap.size v7 (mkR C (k + 1)) := M8
      have LC9 : Hid (∀ j, j < 8 → w8.drew.cell? ⟨lb, lo + j, none⟩ = some (.int .u32 (U ((stl ⟨a, b, c, d, e, f, g, h⟩).getD j 0)))) := LC8
      have LT9 : lb < w8.drew.heap.size := LT8
      clear B8 M8 LC8 LT8 d0 d1 d2
      generalize w8.drew = w9 at hS B9 M9 LC9 LT9 ⊢
      refine AnyBut.take (i := 0) (v := ?_) rfl (by kernel_rfl) (by kernel_rfl) (by kernel_rfl) (by kernel_rfl) (fun _ _ _ h => h) (Or.inl ⟨by rfl, ?_⟩) hS ?_
      rotate_left
      · (intro wq hq; go_simp; try with_reducible rfl)
      try simp only [Act.put, List.setIfInBounds_toArray, List.set_cons_zero, List.set_cons_succ, List.getElem_toArray, List.getElem_cons_zero, List.getElem_cons_succ]
      refine AnyBut.take (i := 1) (v := ?_) rfl (by kernel_rfl) (by kernel_rfl) (by kernel_rfl) (by kernel_rfl) (fun _ _ _ h => h) (Or.inl ⟨by rfl, ?_⟩) hS ?_
      rotate_left
      · (intro wq hq; go_simp; try with_reducible rfl)
      try simp only [Act.put, List.setIfInBounds_toArray, List.set_cons_zero, List.set_cons_succ, List.getElem_toArray, List.getElem_cons_zero, List.getElem_cons_succ]
      refine AnyBut.take (i := 2) (v := ?_) rfl (by kernel_rfl) (by kernel_rfl) (by kernel_rfl) (by kernel_rfl) (fun _ _ _ h => h) (Or.inl ⟨by rfl, ?_⟩) hS ?_
      rotate_left
      · (intro wq hq; obtain ⟨hq0, hq1, hq2⟩ := hq; go_simp; try with_reducible rfl)
      try simp only [Act.put, List.setIfInBounds_toArray, List.set_cons_zero, List.set_cons_succ, List.getElem_toArray, List.getElem_cons_zero, List.getElem_cons_succ]
      refine AnyBut.take (i := 4) (v := ?_) rfl (by kernel_rfl) (by kernel_rfl) (by kernel_rfl) (by kernel_rfl) (fun _ _ _ h => h) (Or.inl ⟨by rfl, ?_⟩) hS ?_
      rotate_left
      · (intro wq hq; go_simp; try with_reducible rfl)
      try simp only [Act.put, List.setIfInBounds_toArray, List.set_cons_zero, List.set_cons_succ, List.getElem_toArray, List.getElem_cons_zero, List.getElem_cons_succ]
      refine AnyBut.take (i := 5) (v := ?_) rfl (by kernel_rfl) (by kernel_rfl) (by kernel_rfl) (by kernel_rfl) (fun _ _ _ h => h) (Or.inl ⟨by rfl, ?_⟩) hS ?_
      rotate_left
      · (intro wq hq; go_simp; try with_reducible rfl)
      try simp only [Act.put, List.setIfInBounds_toArray, List.set_cons_zero, List.set_cons_succ, List.getElem_toArray, List.getElem_cons_zero, List.getElem_cons_succ]
      refine AnyBut.take (i := 6) (v := ?_) rfl (by kernel_rfl) (by kernel_rfl) (by kernel_rfl) (by kernel_rfl) (fun _ _ _ h => h) (Or.inl ⟨by rfl, ?_⟩) hS ?_
      rotate_left
      · (intro wq hq; obtain ⟨hq0, hq1, hq2⟩ := hq; go_simp; try with_reducible rfl)
      try simp only [Act.put, List.setIfInBounds_toArray, List.set_cons_zero, List.set_cons_succ, List.getElem_toArray, List.getElem_cons_zero, List.getElem_cons_succ]
      refine AnyBut.take (i := 8) (v := ?_) rfl (by kernel_rfl) (by kernel_rfl) (by kernel_rfl) (by kernel_rfl) (fun _ _ _ h => h) (Or.inl ⟨by rfl, ?_⟩) hS ?_
      rotate_left
      · (intro wq hq; go_simp; try with_reducible rfl)
      try simp only [Act.put, List.setIfInBounds_toArray, List.set_cons_zero, List.set_cons_succ, List.getElem_toArray, List.getElem_cons_zero, List.getElem_cons_succ]
      refine AnyBut.take (i := 9) (v := ?_) rfl (by kernel_rfl) (by kernel_rfl) (by kernel_rfl) (by kernel_rfl) (fun _ _ _ h => h) (Or.inl ⟨by rfl, ?_⟩) hS ?_
      rotate_left
      · (intro wq hq; go_simp; try with_reducible rfl)
      try simp only [Act.put, List.setIfInBounds_toArray, List.set_cons_zero, List.set_cons_succ, List.getElem_toArray, List.getElem_cons_zero, List.getElem_cons_succ]
      refine AnyBut.take (i := 10) (v := ?_) rfl (by kernel_rfl) (by kernel_rfl) (by kernel_rfl) (by kernel_rfl) (fun _ _ _ h => h) (Or.inl ⟨by rfl, ?_⟩) hS ?_
      rotate_left
      · (intro wq hq; obtain ⟨hq0, hq1, hq2⟩ := hq; go_simp; try with_reducible rfl)
      try simp only [Act.put, List.setIfInBounds_toArray, List.set_cons_zero, List.set_cons_succ, List.getElem_toArray, List.getElem_cons_zero, List.getElem_cons_succ]
      refine AnyBut.take (i := 13) (v := ?_) rfl (by kernel_rfl) (by kernel_rfl) (by kernel_rfl) (by kernel_rfl) (fun _ _ _ h => h) (Or.inl ⟨by rfl, ?_⟩) hS ?_
      rotate_left
      · (intro wq hq; go_simp; try with_reducible rfl)
      try simp only [Act.put, List.setIfInBounds_toArray, List.set_cons_zero, List.set_cons_succ, List.getElem_toArray, List.getElem_cons_zero, List.getElem_cons_succ]
      refine AnyBut.take (i := 14) (v := ?_) rfl (by kernel_rfl) (by kernel_rfl) (by kernel_rfl) (by kernel_rfl) (fun _ _ _ h => h) (Or.inl ⟨by rfl, ?_⟩) hS ?_
      rotate_left
      · (intro wq hq; go_simp; try with_reducible rfl)
      try simp only [Act.put, List.setIfInBounds_toArray, List.set_cons_zero, List.set_cons_succ, List.getElem_toArray, List.getElem_cons_zero, List.getElem_cons_succ]
      refine AnyBut.take (i := 15) (v := ?_) rfl (by kernel_rfl) (by kernel_rfl) (by kernel_rfl) (by kernel_rfl) (fun _ _ _ h => h) (Or.inl ⟨by rfl, ?_⟩) hS ?_
      rotate_left
      · (intro wq hq; obtain ⟨hq0, hq1, hq2⟩ := hq; go_simp; try with_reducible rfl)
      try simp only [Act.put, List.setIfInBounds_toArray, List.set_cons_zero, List.set_cons_succ, List.getElem_toArray, List.getElem_cons_zero, List.getElem_cons_succ]
      refine AnyBut.take (i := 16) (v := ?_) rfl (by kernel_rfl) (by kernel_rfl) (by kernel_rfl) (by kernel_rfl) (fun _ _ _ h => h) (Or.inl ⟨by rfl, ?_⟩) hS ?_
      rotate_left
      · (intro wq hq; go_simp; try with_reducible rfl)
      try simp only [Act.put, List.setIfInBounds_toArray, List.set_cons_zero, List.set_cons_succ, List.getElem_toArray, List.getElem_cons_zero, List.getElem_cons_succ]
      refine AnyBut.take (i := 17) (v := ?_) rfl (by kernel_rfl) (by kernel_rfl) (by kernel_rfl) (by kernel_rfl) (fun _ _ _ h => h) (Or.inl ⟨by rfl, ?_⟩) hS ?_
      rotate_left
      · (intro wq hq; go_simp; try with_reducible rfl)
      try simp only [Act.put, List.setIfInBounds_toArray, List.set_cons_zero, List.set_cons_succ, List.getElem_toArray, List.getElem_cons_zero, List.getElem_cons_succ]
      refine AnyBut.take (i := 18) (v := ?_) rfl (by kernel_rfl) (by kernel_rfl) (by kernel_rfl) (by kernel_rfl) (fun _ _ _ h => h) (Or.inl ⟨by rfl, ?_⟩) hS ?_
      rotate_left
      · (intro wq hq; obtain ⟨hq0, hq1, hq2⟩ := hq; go_simp; try with_reducible rfl)
      try simp only [Act.put, List.setIfInBounds_toArray, List.set_cons_zero, List.set_cons_succ, List.getElem_toArray, List.getElem_cons_zero, List.getElem_cons_succ]
      refine AnyBut.take (i := 19) (v := ?_) rfl (by kernel_rfl) (by kernel_rfl) (by kernel_rfl) (by kernel_rfl) (fun _ _ _ h => h) (Or.inl ⟨by rfl, ?_⟩) hS ?_
      rotate_left
      · (intro wq hq; go_simp; try with_reducible rfl)
      try simp only [Act.put, List.setIfInBounds_toArray, List.set_cons_zero, List.set_cons_succ, List.getElem_toArray, List.getElem_cons_zero, List.getElem_cons_succ]
      refine AnyBut.take (i := 20) (v := ?_) rfl (by kernel_rfl) (by kernel_rfl) (by kernel_rfl) (by kernel_rfl) (fun _ _ _ h => h) (Or.inl ⟨by rfl, ?_⟩) hS ?_
      rotate_left
      · (intro wq hq; go_simp; try with_reducible rfl)
      try simp only [Act.put, List.setIfInBounds_toArray, List.set_cons_zero, List.set_cons_succ, List.getElem_toArray, List.getElem_cons_zero, List.getElem_cons_succ]
      refine AnyBut.take (i := 21) (v := ?_) rfl (by kernel_rfl) (by kernel_rfl) (by kernel_rfl) (by kernel_rfl) (fun _ _ _ h => h) (Or.inl ⟨by rfl, ?_⟩) hS ?_
      rotate_left
      · (intro wq hq; go_simp; try with_reducible rfl)
      try simp only [Act.put, List.setIfInBounds_toArray, List.set_cons_zero, List.set_cons_succ, List.getElem_toArray, List.getElem_cons_zero, List.getElem_cons_succ]
      refine AnyBut.take (i := 22) (v := ?_) rfl (by kernel_rfl) (by kernel_rfl) (by kernel_rfl) (by kernel_rfl) (fun _ _ _ h => h) (Or.inl ⟨by rfl, ?_⟩) hS ?_
      rotate_left
      · (intro wq hq; obtain ⟨hq0, hq1, hq2⟩ := hq; go_simp; try with_reducible rfl)
      try simp only [Act.put, List.setIfInBounds_toArray, List.set_cons_zero, List.set_cons_succ, List.getElem_toArray, List.getElem_cons_zero, List.getElem_cons_succ]
      refine AnyBut.take (i := 23) (v := ?_) rfl (by kernel_rfl) (by kernel_rfl) (by kernel_rfl) (by kernel_rfl) (fun _ _ _ h => h) (Or.inl ⟨by rfl, ?_⟩) hS ?_
      rotate_left
      · (intro wq hq; go_simp; try with_reducible rfl)
      try simp only [Act.put, List.setIfInBounds_toArray, List.set_cons_zero, List.set_cons_succ, List.getElem_toArray, List.getElem_cons_zero, List.getElem_cons_succ]
      refine AnyBut.take (i := 24) (v := ?_) rfl (by kernel_rfl) (by kernel_rfl) (by kernel_rfl) (by kernel_rfl) (fun _ _ _ h => h) (Or.inl ⟨by rfl, ?_⟩) hS ?_
      rotate_left
      · (intro wq hq; go_simp; try with_reducible rfl)
      try simp only [Act.put, List.setIfInBounds_toArray, List.set_cons_zero, List.set_cons_succ, List.getElem_toArray, List.getElem_cons_zero, List.getElem_cons_succ]
      refine AnyBut.take (i := 25) (v := ?_) rfl (by kernel_rfl) (by kernel_rfl) (by kernel_rfl) (by kernel_rfl) (fun _ _ _ h => h) (Or.inl ⟨by rfl, ?_⟩) hS ?_
      rotate_left
      · (intro wq hq; obtain ⟨hq0, hq1, hq2⟩ := hq; go_simp; try with_reducible rfl)
      try simp only [Act.put, List.setIfInBounds_toArray, List.set_cons_zero, List.set_cons_succ, List.getElem_toArray, List.getElem_cons_zero, List.getElem_cons_succ]
      refine AnyBut.take (i := 26) (v := ?_) rfl (by kernel_rfl) (by kernel_rfl) (by kernel_rfl) (by kernel_rfl) (fun _ _ _ h => h) (Or.inl ⟨by rfl, ?_⟩) hS ?_
      rotate_left
      · (intro wq hq; go_simp; try with_reducible rfl)
      try simp only [Act.put, List.setIfInBounds_toArray, List.set_cons_zero, List.set_cons_succ, List.getElem_toArray, List.getElem_cons_zero, List.getElem_cons_succ]
      refine AnyBut.take (i := 27) (v := ?_) rfl (by kernel_rfl) (by kernel_rfl) (by kernel_rfl) (by kernel_rfl) (fun _ _ _ h => h) (Or.inl ⟨by rfl, ?_⟩) hS ?_
      rotate_left
      · (intro wq hq; go_simp; try with_reducible rfl)
      try simp only [Act.put, List.setIfInBounds_toArray, List.set_cons_zero, List.set_cons_succ, List.getElem_toArray, List.getElem_cons_zero, List.getElem_cons_succ]
      refine AnyBut.take (i := 28) (v := ?_) rfl (by kernel_rfl) (by kernel_rfl) (by kernel_rfl) (by kernel_rfl) (fun _ _ _ h => h) (Or.inl ⟨by rfl, ?_⟩) hS ?_
      rotate_left
      · (intro wq hq; go_simp; try with_reducible rfl)
      try simp only [Act.put, List.setIfInBounds_toArray, List.set_cons_zero, List.set_cons_succ, List.getElem_toArray, List.getElem_cons_zero, List.getElem_cons_succ]
      refine AnyBut.take (i := 29) (v := ?_) rfl (by kernel_rfl) (by kernel_rfl) (by kernel_rfl) (by kernel_rfl) (fun _ _ _ h => h) (Or.inl ⟨by rfl, ?_⟩) hS ?_
      rotate_left
      · (intro wq hq; go_simp; try with_reducible rfl)
      try simp only [Act.put, List.setIfInBounds_toArray, List.set_cons_zero, List.set_cons_succ, List.getElem_toArray, List.getElem_cons_zero, List.getElem_cons_succ]
      refine AnyBut.take (i := 30) (v := ?_) rfl (by kernel_rfl) (by kernel_rfl) (by kernel_rfl) (by kernel_rfl) (fun _ _ _ h => h) (Or.inl ⟨by rfl, ?_⟩) hS ?_
      rotate_left
      · (intro wq hq; obtain ⟨hq0, hq1, hq2⟩ := hq; go_simp; try with_reducible rfl)
      try simp only [Act.put, List.setIfInBounds_toArray, List.set_cons_zero, List.set_cons_succ, List.getElem_toArray, List.getElem_cons_zero, List.getElem_cons_succ]
      refine AnyBut.take (i := 31) (v := ?_) rfl (by kernel_rfl) (by kernel_rfl) (by kernel_rfl) (by kernel_rfl) (fun _ _ _ h => h) (Or.inl ⟨by rfl, ?_⟩) hS ?_
      rotate_left
      · (intro wq hq; go_simp; try with_reducible rfl)
      try simp only [Act.put, List.setIfInBounds_toArray, List.set_cons_zero, List.set_cons_succ, List.getElem_toArray, List.getElem_cons_zero, List.getElem_cons_succ]
      refine AnyBut.take (i := 32) (v := ?_) rfl (by kernel_rfl) (by kernel_rfl) (by kernel_rfl) (by kernel_rfl) (fun _ _ _ h => h) (Or.inl ⟨by rfl, ?_⟩) hS ?_
      rotate_left
      · (intro wq hq; go_simp; try with_reducible rfl)
      try simp only [Act.put, List.setIfInBounds_toArray, List.set_cons_zero, List.set_cons_succ, List.getElem_toArray, List.getElem_cons_zero, List.getElem_cons_succ]
      refine AnyBut.take (i := 33) (v := ?_) rfl (by kernel_rfl) (by kernel_rfl) (by kernel_rfl) (by kernel_rfl) (fun _ _ _ h => h) (Or.inl ⟨by rfl, ?_⟩) hS ?_
      rotate_left
      · (intro wq hq; obtain ⟨hq0, hq1, hq2⟩ := hq; go_simp; try with_reducible rfl)
      try simp only [Act.put, List.setIfInBounds_toArray, List.set_cons_zero, List.set_cons_succ, List.getElem_toArray, List.getElem_cons_zero, List.getElem_cons_succ]
      refine AnyBut.take (i := 34) (v := ?_) rfl (by kernel_rfl) (by kernel_rfl) (by kernel_rfl) (by kernel_rfl) (fun _ _ _ h => h) (Or.inl ⟨by rfl, ?_⟩) hS ?_
      rotate_left
      · (intro wq hq; go_simp; try with_reducible rfl)
      try simp only [Act.put, List.setIfInBounds_toArray, List.set_cons_zero, List.set_cons_succ, List.getElem_toArray, List.getElem_cons_zero, List.getElem_cons_succ]
      refine AnyBut.take (i := 35) (v := ?_) rfl (by kernel_rfl) (by kernel_rfl) (by kernel_rfl) (by kernel_rfl) (fun _ _ _ h => h) (Or.inl ⟨by rfl, ?_⟩) hS ?_
      rotate_left
      · (intro wq hq; go_simp; try with_reducible rfl)
      try simp only [Act.put, List.setIfInBounds_toArray, List.set_cons_zero, List.set_cons_succ, List.getElem_toArray, List.getElem_cons_zero, List.getElem_cons_succ]
      refine AnyBut.gone (i := 3) (by kernel_rfl) rfl (by rfl) (fun K hK => ?_)
      go_simp
      (with_reducible refine (r2 _ _).mono ?_)
      rintro e wz ⟨rfl, rfl⟩
      dsimp only
      refine hK _ _ (fun _ => hS) ?_
      clear hK K
      try simp only [Act.put, List.setIfInBounds_toArray, List.set_cons_zero, List.set_cons_succ, List.getElem_toArray, List.getElem_cons_zero, List.getElem_cons_succ]
      refine AnyBut.gone (i := 7) (by kernel_rfl) rfl (by rfl) (fun K hK => ?_)
      go_simp
      (with_reducible refine (r13 _ _).mono ?_)
      rintro e wz ⟨rfl, rfl⟩
      dsimp only
      refine hK _ _ (fun _ => hS) ?_
      clear hK K
      try simp only [Act.put, List.setIfInBounds_toArray, List.set_cons_zero, List.set_cons_succ, List.getElem_toArray, List.getElem_cons_zero, List.getElem_cons_succ]
      refine AnyBut.gone (i := 11) (by kernel_rfl) rfl (by rfl) (fun K hK => ?_)
      go_simp
      (with_reducible refine (r22 _ _).mono ?_)
      rintro e wz ⟨rfl, rfl⟩
      dsimp only
      refine hK _ _ (fun _ => hS) ?_
      clear hK K
      try simp only [Act.put, List.setIfInBounds_toArray, List.set_cons_zero, List.set_cons_succ, List.getElem_toArray, List.getElem_cons_zero, List.getElem_cons_succ]
      refine AnyBut.gone (i := 12) (by kernel_rfl) rfl (by rfl) (fun K hK => ?_)
      go_simp
      (with_reducible refine (three_any _ _ _ _).mono ?_)
      rintro e wz ⟨rfl, rfl⟩
      dsimp only
      refine hK _ _ (fun _ => hS) ?_
      clear hK K
      try simp only [Act.put, List.setIfInBounds_toArray, List.set_cons_zero, List.set_cons_succ, List.getElem_toArray, List.getElem_cons_zero, List.getElem_cons_succ]
      refine AnyBut.take (i := 36) (v := ?_) rfl (by kernel_rfl) (by kernel_rfl) (by kernel_rfl) (by kernel_rfl) (fun _ _ _ h => h) (Or.inl ⟨by rfl, ?_⟩) hS ?_
      rotate_left
      · (intro wq hq; go_simp; try with_reducible rfl)
      try simp only [Act.put, List.setIfInBounds_toArray, List.set_cons_zero, List.set_cons_succ, List.getElem_toArray, List.getElem_cons_zero, List.getElem_cons_succ]
      refine AnyBut.gone (i := 37) (by kernel_rfl) rfl (by rfl) (fun K hK => ?_)
      go_simp
      refine hK _ _ (fun h => absurd rfl h) ?_
      clear hK K
      refine AnyBut.done (by kernel_rfl) ?_ _
      dsimp only [Exit.then]
      clear hS
      obtain ⟨uu, huu⟩ : ∃ uu, uu = (a.rotateRight 2 ^^^ a.rotateRight 13 ^^^ a.rotateRight 22) + (a &&& b ||| b &&& c ||| c &&& a) := ⟨_, rfl⟩
      have HUU := Lib.hid huu
      rw [← huu]
      clear huu r6 r11 r25 r2 r13 r22
      go_upto_region 11 with fail
      have d0 : w9.cell? ⟨lb, lo, none⟩ = some (.int .u32 (U a)) := LC9.out 0 (by omega)
      have d1 : w9.cell? ⟨lb, lo + 1, none⟩ = some (.int .u32 (U b)) := LC9.out 1 (by omega)
      have d2 : w9.cell? ⟨lb, lo + 2, none⟩ = some (.int .u32 (U c)) := LC9.out 2 (by omega)
      have d3 : w9.cell? ⟨lb, lo + 3, none⟩ = some (.int .u32 (U d)) := LC9.out 3 (by omega)
      have c4 : (4 : Int) ≤ 7 := by omega
      have c7 : (7 : Int) ≤ (cap : Int) := by omega
      have cn : ¬ cap = 4 := by omega
      refine wp_calm_any ?_
      refine wp_region_but (z := 21) (fun w' : World => w'.cell? ⟨lb, lo, none⟩ = some (.int .u32 (U a)) ∧ w'.cell? ⟨lb, lo + 1, none⟩ = some (.int .u32 (U b)) ∧ w'.cell? ⟨lb, lo + 2, none⟩ = some (.int .u32 (U c)) ∧ w'.cell? ⟨lb, lo + 3, none⟩ = some (.int .u32 (U d))) (by kernel_rfl) ?_
      have hS : (fun w' : World => w'.cell? ⟨lb, lo, none⟩ = some (.int .u32 (U a)) ∧ w'.cell? ⟨lb, lo + 1, none⟩ = some (.int .u32 (U b)) ∧ w'.cell? ⟨lb, lo + 2, none⟩ = some (.int .u32 (U c)) ∧ w'.cell? ⟨lb, lo + 3, none⟩ = some (.int .u32 (U d))) w9.drew := ⟨d0, d1, d2, d3⟩
      have BA : Below w.heap.size w w9.drew := B9.drew
      have MA : OU w9.drew w.heap.size v7 (mkR C (k + 1)) := M9
      have LCA : Hid (∀ j, j < 8 → w9.drew.cell? ⟨lb, lo + j, none⟩ = some (.int .u32 (U ((stl ⟨a, b, c, d, e, f, g, h⟩).getD j 0)))) := LC9
      have LTA : lb < w9.drew.heap.size := LT9
      clear B9 M9 LC9 LT9 d0 d1 d2 d3
      generalize w9.drew = wA at hS BA MA LCA LTA ⊢
      refine AnyBut.take (i := 0) (v := ?_) rfl (by kernel_rfl) (by kernel_rfl) (by kernel_rfl) (by kernel_rfl) (fun _ _ _ h => h) (Or.inl ⟨by rfl, ?_⟩) hS ?_
      rotate_left
      · (intro wq hq; go_simp; try with_reducible rfl)
      try simp only [Act.put, List.setIfInBounds_toArray, List.set_cons_zero, List.set_cons_succ, List.getElem_toArray, List.getElem_cons_zero, List.getElem_cons_succ]
      refine AnyBut.take (i := 1) (v := ?_) rfl (by kernel_rfl) (by kernel_rfl) (by kernel_rfl) (by kernel_rfl) (fun _ _ _ h => h) (Or.inl ⟨by rfl, ?_⟩) hS ?_
      rotate_left
      · (intro wq hq; go_simp; try with_reducible rfl)
      try simp only [Act.put, List.setIfInBounds_toArray, List.set_cons_zero, List.set_cons_succ, List.getElem_toArray, List.getElem_cons_zero, List.getElem_cons_succ]
      refine AnyBut.take (i := 2) (v := ?_) rfl (by kernel_rfl) (by kernel_rfl) (by kernel_rfl) (by kernel_rfl) (fun _ _ _ h => h) (Or.inl ⟨by rfl, ?_⟩) hS ?_
      rotate_left
      · (intro wq hq; go_simp; try with_reducible rfl)
      try simp only [Act.put, List.setIfInBounds_toArray, List.set_cons_zero, List.set_cons_succ, List.getElem_toArray, List.getElem_cons_zero, List.getElem_cons_succ]
      refine AnyBut.take (i := 3) (v := ?_) rfl (by kernel_rfl) (by kernel_rfl) (by kernel_rfl) (by kernel_rfl) (fun _ _ _ h => h) (Or.inl ⟨by rfl, ?_⟩) hS ?_
      rotate_left
      · (intro wq hq; go_simp; try with_reducible rfl)
      try simp only [Act.put, List.setIfInBounds_toArray, List.set_cons_zero, List.set_cons_succ, List.getElem_toArray, List.getElem_cons_zero, List.getElem_cons_succ]
      refine AnyBut.take (i := 4) (v := ?_) rfl (by kernel_rfl) (by kernel_rfl) (by kernel_rfl) (by kernel_rfl) (fun _ _ _ h => h) (Or.inl ⟨by rfl, ?_⟩) hS ?_
      rotate_left
      · (intro wq hq; go_simp; try with_reducible rfl)
      try simp only [Act.put, List.setIfInBounds_toArray, List.set_cons_zero, List.set_cons_succ, List.getElem_toArray, List.getElem_cons_zero, List.getElem_cons_succ]
      refine AnyBut.take (i := 5) (v := ?_) rfl (by kernel_rfl) (by kernel_rfl) (by kernel_rfl) (by kernel_rfl) (fun _ _ _ h => h) (Or.inl ⟨by rfl, ?_⟩) hS ?_
      rotate_left
      · (intro wq hq; obtain ⟨hq0, hq1, hq2, hq3⟩ := hq; go_simp; try with_reducible rfl)
      try simp only [Act.put, List.setIfInBounds_toArray, List.set_cons_zero, List.set_cons_succ, List.getElem_toArray, List.getElem_cons_zero, List.getElem_cons_succ]
      refine AnyBut.take (i := 6) (v := ?_) rfl (by kernel_rfl) (by kernel_rfl) (by kernel_rfl) (by kernel_rfl) (fun _ _ _ h => h) (Or.inl ⟨by rfl, ?_⟩) hS ?_
      rotate_left
      · (intro wq hq; go_simp; try with_reducible rfl)
      try simp only [Act.put, List.setIfInBounds_toArray, List.set_cons_zero, List.set_cons_succ, List.getElem_toArray, List.getElem_cons_zero, List.getElem_cons_succ]
      refine AnyBut.take (i := 7) (v := ?_) rfl (by kernel_rfl) (by kernel_rfl) (by kernel_rfl) (by kernel_rfl) (fun _ _ _ h => h) (Or.inl ⟨by rfl, ?_⟩) hS ?_
      rotate_left
      · (intro wq hq; go_simp; try with_reducible rfl)
      try simp only [Act.put, List.setIfInBounds_toArray, List.set_cons_zero, List.set_cons_succ, List.getElem_toArray, List.getElem_cons_zero, List.getElem_cons_succ]
      refine AnyBut.take (i := 8) (v := ?_) rfl (by kernel_rfl) (by kernel_rfl) (by kernel_rfl) (by kernel_rfl) (fun _ _ _ h => h) (Or.inl ⟨by rfl, ?_⟩) hS ?_
      rotate_left
      · (intro wq hq; obtain ⟨hq0, hq1, hq2, hq3⟩ := hq; go_simp; try with_reducible rfl)
      try simp only [Act.put, List.setIfInBounds_toArray, List.set_cons_zero, List.set_cons_succ, List.getElem_toArray, List.getElem_cons_zero, List.getElem_cons_succ]
      refine AnyBut.take (i := 9) (v := ?_) rfl (by kernel_rfl) (by kernel_rfl) (by kernel_rfl) (by kernel_rfl) (fun _ _ _ h => h) (Or.inl ⟨by rfl, ?_⟩) hS ?_
      rotate_left
      · (intro wq hq; go_simp; try with_reducible rfl)
      try simp only [Act.put, List.setIfInBounds_toArray, List.set_cons_zero, List.set_cons_succ, List.getElem_toArray, List.getElem_cons_zero, List.getElem_cons_succ]
      refine AnyBut.take (i := 10) (v := ?_) rfl (by kernel_rfl) (by kernel_rfl) (by kernel_rfl) (by kernel_rfl) (fun _ _ _ h => h) (Or.inl ⟨by rfl, ?_⟩) hS ?_
      rotate_left
      · (intro wq hq; go_simp; try with_reducible rfl)
      try simp only [Act.put, List.setIfInBounds_toArray, List.set_cons_zero, List.set_cons_succ, List.getElem_toArray, List.getElem_cons_zero, List.getElem_cons_succ]
      refine AnyBut.take (i := 11) (v := ?_) rfl (by kernel_rfl) (by kernel_rfl) (by kernel_rfl) (by kernel_rfl) (fun _ _ _ h => h) (Or.inl ⟨by rfl, ?_⟩) hS ?_
      rotate_left
      · (intro wq hq; obtain ⟨hq0, hq1, hq2, hq3⟩ := hq; go_simp; try with_reducible rfl)
      try simp only [Act.put, List.setIfInBounds_toArray, List.set_cons_zero, List.set_cons_succ, List.getElem_toArray, List.getElem_cons_zero, List.getElem_cons_succ]
      refine AnyBut.take (i := 12) (v := ?_) rfl (by kernel_rfl) (by kernel_rfl) (by kernel_rfl) (by kernel_rfl) (fun _ _ _ h => h) (Or.inl ⟨by rfl, ?_⟩) hS ?_
      rotate_left
      · (intro wq hq; go_simp; try with_reducible rfl)
      try simp only [Act.put, List.setIfInBounds_toArray, List.set_cons_zero, List.set_cons_succ, List.getElem_toArray, List.getElem_cons_zero, List.getElem_cons_succ]
      refine AnyBut.take (i := 13) (v := ?_) rfl (by kernel_rfl) (by kernel_rfl) (by kernel_rfl) (by kernel_rfl) (fun _ _ _ h => h) (Or.inl ⟨by rfl, ?_⟩) hS ?_
      rotate_left
      · (intro wq hq; go_simp; try with_reducible rfl)
      try simp only [Act.put, List.setIfInBounds_toArray, List.set_cons_zero, List.set_cons_succ, List.getElem_toArray, List.getElem_cons_zero, List.getElem_cons_succ]
      refine AnyBut.take (i := 14) (v := ?_) rfl (by kernel_rfl) (by kernel_rfl) (by kernel_rfl) (by kernel_rfl) (fun _ _ _ h => h) (Or.inl ⟨by rfl, ?_⟩) hS ?_
      rotate_left
      · (intro wq hq; obtain ⟨hq0, hq1, hq2, hq3⟩ := hq; go_simp; try with_reducible rfl)
      try simp only [Act.put, List.setIfInBounds_toArray, List.set_cons_zero, List.set_cons_succ, List.getElem_toArray, List.getElem_cons_zero, List.getElem_cons_succ]
      refine AnyBut.take (i := 15) (v := ?_) rfl (by kernel_rfl) (by kernel_rfl) (by kernel_rfl) (by kernel_rfl) (fun _ _ _ h => h) (Or.inl ⟨by rfl, ?_⟩) hS ?_
      rotate_left
      · (intro wq hq; go_simp; try with_reducible rfl)
      try simp only [Act.put, List.setIfInBounds_toArray, List.set_cons_zero, List.set_cons_succ, List.getElem_toArray, List.getElem_cons_zero, List.getElem_cons_succ]
      refine AnyBut.take (i := 16) (v := ?_) rfl (by kernel_rfl) (by kernel_rfl) (by kernel_rfl) (by kernel_rfl) (fun _ _ _ h => h) (Or.inl ⟨by rfl, ?_⟩) hS ?_
      rotate_left
      · (intro wq hq; go_simp; try with_reducible rfl)
      try simp only [Act.put, List.setIfInBounds_toArray, List.set_cons_zero, List.set_cons_succ, List.getElem_toArray, List.getElem_cons_zero, List.getElem_cons_succ]
      refine AnyBut.take (i := 18) (v := ?_) rfl (by kernel_rfl) (by kernel_rfl) (by kernel_rfl) (by kernel_rfl) (fun _ _ _ h => h) (Or.inl ⟨by rfl, ?_⟩) hS ?_
      rotate_left
      · (intro wq hq; go_simp; try with_reducible rfl)
      try simp only [Act.put, List.setIfInBounds_toArray, List.set_cons_zero, List.set_cons_succ, List.getElem_toArray, List.getElem_cons_zero, List.getElem_cons_succ]
      refine AnyBut.take (i := 19) (v := ?_) rfl (by kernel_rfl) (by kernel_rfl) (by kernel_rfl) (by kernel_rfl) (fun _ _ _ h => h) (Or.inl ⟨by rfl, ?_⟩) hS ?_
      rotate_left
      · (intro wq hq; go_simp; try with_reducible rfl)
      try simp only [Act.put, List.setIfInBounds_toArray, List.set_cons_zero, List.set_cons_succ, List.getElem_toArray, List.getElem_cons_zero, List.getElem_cons_succ]
      refine AnyBut.gone (i := 17) (by kernel_rfl) rfl (by rfl) (fun K hK => ?_)
      go_simp
      have hS : (fun w' : World => w'.cell? ⟨lb, lo, none⟩ = some (.int .u32 (U a)) ∧ w'.cell? ⟨lb, lo + 1, none⟩ = some (.int .u32 (U b)) ∧ w'.cell? ⟨lb, lo + 2, none⟩ = some (.int .u32 (U c)) ∧ w'.cell? ⟨lb, lo + 3, none⟩ = some (.int .u32 (U d))) (wA.alloc (Obj.cells #[.int .u32 (U (tt + uu)), .int .u32 (U a), .int .u32 (U b), .int .u32 (U c), .int .u32 (U (d + tt))] 22)) := ⟨cell_alloc _ hS.1, cell_alloc _ hS.2.1, cell_alloc _ hS.2.2.1, cell_alloc _ hS.2.2.2⟩
      refine hK _ _ (fun _ => hS) ?_
      clear hK K
      try simp only [Act.put, List.setIfInBounds_toArray, List.set_cons_zero, List.set_cons_succ, List.getElem_toArray, List.getElem_cons_zero, List.getElem_cons_succ]
      have own5 := owns_built47 wA (tt + uu) a b c (d + tt)
      have srcE : Src47 (wA.alloc (Obj.cells #[.int .u32 (U (tt + uu)), .int .u32 (U a), .int .u32 (U b), .int .u32 (U c), .int .u32 (U (d + tt))] 22)) (some ⟨lb, lo + 4, none⟩) 3 (vus [e, f, g]) := ⟨rfl, fun _ => ⟨_, rfl, fun j u hj => by
        have hj3 : j < 3 := by have := (List.getElem?_eq_some_iff.1 hj).1; simpa [vus] using this
        rw [Addr.add_mid]
        refine cell_alloc _ ?_
        have hc := LCA.out (4 + j) (by omega)
        rw [← Nat.add_assoc] at hc
        rw [hc, ← hj]
        have : j = 0 ∨ j = 1 ∨ j = 2 := by omega
        rcases this with rfl | rfl | rfl <;> rfl⟩, vus_one _⟩
      refine AnyBut.gone (i := 20) (by kernel_rfl) rfl (by rfl) (fun K hK => ?_)
      refine wp_app47 (.tmp 117) (.tmp 119) rfl rfl wA.heap.size _ 5 (vus [tt + uu, a, b, c, d + tt]) rfl own5 (some ⟨lb, lo + 4, none⟩) 3 (cap - 4) (vus [e, f, g]) rfl srcE (fun h => by cases h) (by omega) (by simp) ?_
      intro vB wB ownB hgB
      have hne : ∀ q, q < wA.heap.size → some q ≠ Value.ownBlock (.slice (some ⟨wA.heap.size, 0, none⟩) 5 5) := fun q hq h => by simp [Value.ownBlock] at h; omega
      have hS : (fun w' : World => w'.cell? ⟨lb, lo, none⟩ = some (.int .u32 (U a)) ∧ w'.cell? ⟨lb, lo + 1, none⟩ = some (.int .u32 (U b)) ∧ w'.cell? ⟨lb, lo + 2, none⟩ = some (.int .u32 (U c)) ∧ w'.cell? ⟨lb, lo + 3, none⟩ = some (.int .u32 (U d))) wB := ⟨hgB.cell hS.1 (hne _ LTA), hgB.cell hS.2.1 (hne _ LTA), hgB.cell hS.2.2.1 (hne _ LTA), hgB.cell hS.2.2.2 (hne _ LTA)⟩
      refine hK _ _ (fun _ => hS) ?_
      clear hK K
      try simp only [Act.put, List.setIfInBounds_toArray, List.set_cons_zero, List.set_cons_succ, List.getElem_toArray, List.getElem_cons_zero, List.getElem_cons_succ]
      refine AnyBut.gone (i := 21) (by kernel_rfl) rfl (by rfl) (fun K hK => ?_)
      go_simp
      refine hK _ _ (fun h => absurd rfl h) ?_
      clear hK K
      refine AnyBut.done (by kernel_rfl) ?_ _
      dsimp only [Exit.then]
      have ownB' : OU wB wA.heap.size vB (stl (stR C s (k + 1))) := by
        rw [HST.out, stl_rnd]
        show OU wB wA.heap.size vB [h + (e.rotateRight 6 ^^^ e.rotateRight 11 ^^^ e.rotateRight 25) + ((e &&& f) + (~~~ e &&& g)) + Kk + x + ((a.rotateRight 2 ^^^ a.rotateRight 13 ^^^ a.rotateRight 22) + (a &&& b ||| b &&& c ||| c &&& a)), a, b, c, d + (h + (e.rotateRight 6 ^^^ e.rotateRight 11 ^^^ e.rotateRight 25) + ((e &&& f) + (~~~ e &&& g)) + Kk + x), e, f, g]
        rw [← HTT.out, ← HUU.out]
        exact ownB
      obtain ⟨lb2, cap2, rfl, hlb, hlt2, hc8, hcm2, hcl⟩ := ownB'.eight rfl
      have hX2 : CR w C (k + 1) (stR C s (k + 1)) v7 lb2 0 wB := by
        have bA := BA.alloc BA.size (Obj.cells #[.int .u32 (U (tt + uu)), .int .u32 (U a), .int .u32 (U b), .int .u32 (U c), .int .u32 (U (d + tt))] 22)
        refine ⟨bA.grown hgB bA.size (fun g hg => (by have := (World.ownsRow.lt own5 g hg).1; exact Nat.le_trans BA.size this)), ?_, fun g hg => ?_, hlt2, hcl⟩
        · exact World.ownsRow.kept (MA.alloc _) hgB (by
            cases hq : v7.ownBlock with
            | none => exact .inl rfl
            | some q => exact .inr (hne q (World.ownsRow.lt MA q hq).2))
        · have := (World.ownsRow.lt MA g hg).2; omega
      have HX2 := Lib.hid hX2
      clear hX2 ownB' ownB own5 srcE hgB hne hcl BA MA LTA LCA hS
      go_wp2_with fail
      go_roundw
      case rel => exact ⟨k + 1, lb2, 0, cap2, by omega, by simp, rfl, hc8, hcm2, HX2.out⟩
      case measure => simp [intOf]; omega
    · obtain rfl : k = 64 := by omega
      generalize wr = W at HX ⊢
      go_wp2_with fail
      go_loopw [14, 15] (fun vo i wq => ∃ j : Nat, j ≤ 8 ∧ i = .int .i64 j ∧ Below W.heap.size W wq ∧ OU wq W.heap.size vo ((stl (addSt s (stR C s 64))).take j)) (fun _ i _ => 8 - (intOf i).toNat)
      case atStart => exact ⟨0, Nat.zero_le _, rfl, Below.refl _ _, OU.nil _ _⟩
      case round =>
        obtain ⟨j, hj, rfl, hb2', ho2'⟩ := hrel
        by_cases hlt8 : j < 8
        · have j0 : (0 : Int) ≤ (j : Int) := by omega
          have j1 : (j : Int) < 8 := by omega
          obtain ⟨p, hp⟩ : ∃ p, p = (stl s).getD j 0 := ⟨_, rfl⟩
          obtain ⟨q, hq⟩ : ∃ q, q = (stl (stR C s 64)).getD j 0 := ⟨_, rfl⟩
          have cp0 : w.cell? ⟨sb, so + j, none⟩ = some (.int .u32 (U p)) := by rw [hp]; exact HS.out j hlt8
          have cq0 : W.cell? ⟨lb, lo + j, none⟩ = some (.int .u32 (U q)) := by rw [hq]; exact HX.out.l j hlt8
          have cp0 : W.cell? ⟨sb, so + j, none⟩ = some (.int .u32 (U p)) := by rw [HX.out.bel.cell (p := ⟨sb, so + j, none⟩) hs]; exact cp0
          have cp : wr.cell? ⟨sb, so + j, none⟩ = some (.int .u32 (U p)) := by rw [hb2'.cell (p := ⟨sb, so + j, none⟩) (Nat.lt_of_lt_of_le hs HX.out.bel.size)]; exact cp0
          have cq : wr.cell? ⟨lb, lo + j, none⟩ = some (.int .u32 (U q)) := by rw [hb2'.cell (p := ⟨lb, lo + j, none⟩) HX.out.lt]; exact cq0
          have hsum : (stl (addSt s (stR C s 64))).getD j 0 = p + q := by
            rw [hp, hq]
            have : j = 0 ∨ j = 1 ∨ j = 2 ∨ j = 3 ∨ j = 4 ∨ j = 5 ∨ j = 6 ∨ j = 7 := by omega
            rcases this with rfl | rfl | rfl | rfl | rfl | rfl | rfl | rfl <;> rfl
          have HSM := Lib.hid hsum
          have ha : ∀ x y : BitVec 32, (U x + U y) % (4294967296 : Int) = U (x + y) := U_add
          have haw : ∀ x y : BitVec 32, IntKind.u32.wrap (U x + U y) = U (x + y) := fun x y => by rw [IntKind.wrap_u32']; exact U_add x y
          have Hcp := Lib.hid cp0
          have Hcq := Lib.hid cq0
          clear hp hq hsum cp0 cq0
          go_upto_region 16 with fail
          refine wp_calm_any ?_
          refine wp_region_but (z := 12) (fun w' : World => w'.cell? ⟨sb, so + j, none⟩ = some (.int .u32 (U p)) ∧ w'.cell? ⟨lb, lo + j, none⟩ = some (.int .u32 (U q))) (by kernel_rfl) ?_
          have hS : (fun w' : World => w'.cell? ⟨sb, so + j, none⟩ = some (.int .u32 (U p)) ∧ w'.cell? ⟨lb, lo + j, none⟩ = some (.int .u32 (U q))) wr.drew := ⟨cp, cq⟩
          have BD : Below W.heap.size W wr.drew := hb2'.drew
          have OD : OU wr.drew W.heap.size u14 ((stl (addSt s (stR C s 64))).take j) := ho2'
          have HOD := Lib.hid OD
          clear OD
          generalize wr.drew = w8 at hS BD HOD ⊢
          refine AnyBut.take (i := 0) (v := ?_) rfl (by kernel_rfl) (by kernel_rfl) (by kernel_rfl) (by kernel_rfl) (fun _ _ _ h => h) (Or.inl ⟨by rfl, ?_⟩) hS ?_
          rotate_left
          · (intro wq hq; go_simp; try with_reducible rfl)
          try simp only [Act.put, List.setIfInBounds_toArray, List.set_cons_zero, List.set_cons_succ, List.getElem_toArray, List.getElem_cons_zero, List.getElem_cons_succ]
          refine AnyBut.take (i := 1) (v := ?_) rfl (by kernel_rfl) (by kernel_rfl) (by kernel_rfl) (by kernel_rfl) (fun _ _ _ h => h) (Or.inl ⟨by rfl, ?_⟩) hS ?_
          rotate_left
          · (intro wq hq; go_simp; try with_reducible rfl)
          try simp only [Act.put, List.setIfInBounds_toArray, List.set_cons_zero, List.set_cons_succ, List.getElem_toArray, List.getElem_cons_zero, List.getElem_cons_succ]
          refine AnyBut.take (i := 2) (v := ?_) rfl (by kernel_rfl) (by kernel_rfl) (by kernel_rfl) (by kernel_rfl) (fun _ _ _ h => h) (Or.inl ⟨by rfl, ?_⟩) hS ?_
          rotate_left
          · (intro wq hq; go_simp; try with_reducible rfl)
          try simp only [Act.put, List.setIfInBounds_toArray, List.set_cons_zero, List.set_cons_succ, List.getElem_toArray, List.getElem_cons_zero, List.getElem_cons_succ]
          refine AnyBut.take (i := 3) (v := ?_) rfl (by kernel_rfl) (by kernel_rfl) (by kernel_rfl) (by kernel_rfl) (fun _ _ _ h => h) (Or.inl ⟨by rfl, ?_⟩) hS ?_
          rotate_left
          · (intro wq hq; go_simp; try with_reducible rfl)
          try simp only [Act.put, List.setIfInBounds_toArray, List.set_cons_zero, List.set_cons_succ, List.getElem_toArray, List.getElem_cons_zero, List.getElem_cons_succ]
          refine AnyBut.take (i := 4) (v := ?_) rfl (by kernel_rfl) (by kernel_rfl) (by kernel_rfl) (by kernel_rfl) (fun _ _ _ h => h) (Or.inl ⟨by rfl, ?_⟩) hS ?_
          rotate_left
          · (intro wq hq; obtain ⟨hq0, hq1⟩ := hq; go_simp; try with_reducible rfl)
          try simp only [Act.put, List.setIfInBounds_toArray, List.set_cons_zero, List.set_cons_succ, List.getElem_toArray, List.getElem_cons_zero, List.getElem_cons_succ]
          refine AnyBut.take (i := 5) (v := ?_) rfl (by kernel_rfl) (by kernel_rfl) (by kernel_rfl) (by kernel_rfl) (fun _ _ _ h => h) (Or.inl ⟨by rfl, ?_⟩) hS ?_
          rotate_left
          · (intro wq hq; go_simp; try with_reducible rfl)
          try simp only [Act.put, List.setIfInBounds_toArray, List.set_cons_zero, List.set_cons_succ, List.getElem_toArray, List.getElem_cons_zero, List.getElem_cons_succ]
          refine AnyBut.take (i := 6) (v := ?_) rfl (by kernel_rfl) (by kernel_rfl) (by kernel_rfl) (by kernel_rfl) (fun _ _ _ h => h) (Or.inl ⟨by rfl, ?_⟩) hS ?_
          rotate_left
          · (intro wq hq; go_simp; try with_reducible rfl)
          try simp only [Act.put, List.setIfInBounds_toArray, List.set_cons_zero, List.set_cons_succ, List.getElem_toArray, List.getElem_cons_zero, List.getElem_cons_succ]
          refine AnyBut.take (i := 7) (v := ?_) rfl (by kernel_rfl) (by kernel_rfl) (by kernel_rfl) (by kernel_rfl) (fun _ _ _ h => h) (Or.inl ⟨by rfl, ?_⟩) hS ?_
          rotate_left
          · (intro wq hq; go_simp; try with_reducible rfl)
          try simp only [Act.put, List.setIfInBounds_toArray, List.set_cons_zero, List.set_cons_succ, List.getElem_toArray, List.getElem_cons_zero, List.getElem_cons_succ]
          refine AnyBut.take (i := 8) (v := ?_) rfl (by kernel_rfl) (by kernel_rfl) (by kernel_rfl) (by kernel_rfl) (fun _ _ _ h => h) (Or.inl ⟨by rfl, ?_⟩) hS ?_
          rotate_left
          · (intro wq hq; obtain ⟨hq0, hq1⟩ := hq; go_simp; try with_reducible rfl)
          try simp only [Act.put, List.setIfInBounds_toArray, List.set_cons_zero, List.set_cons_succ, List.getElem_toArray, List.getElem_cons_zero, List.getElem_cons_succ]
          refine AnyBut.take (i := 9) (v := ?_) rfl (by kernel_rfl) (by kernel_rfl) (by kernel_rfl) (by kernel_rfl) (fun _ _ _ h => h) (Or.inl ⟨by rfl, ?_⟩) hS ?_
          rotate_left
          · (intro wq hq; go_simp; try with_reducible rfl)
          try simp only [Act.put, List.setIfInBounds_toArray, List.set_cons_zero, List.set_cons_succ, List.getElem_toArray, List.getElem_cons_zero, List.getElem_cons_succ]
          refine AnyBut.gone (i := 10) (by kernel_rfl) rfl (by rfl) (fun K hK => ?_)
          go_simp
          have hS : (fun w' : World => w'.cell? ⟨sb, so + j, none⟩ = some (.int .u32 (U p)) ∧ w'.cell? ⟨lb, lo + j, none⟩ = some (.int .u32 (U q))) (w8.alloc (Obj.cells #[.int .u32 (U (p + q))] 22)) := ⟨cell_alloc _ hS.1, cell_alloc _ hS.2⟩
          refine hK _ _ (fun _ => hS) ?_
          clear hK K
          try simp only [Act.put, List.setIfInBounds_toArray, List.set_cons_zero, List.set_cons_succ, List.getElem_toArray, List.getElem_cons_zero, List.getElem_cons_succ]
          have hbA := BD.alloc BD.size (Obj.cells #[.int .u32 (U (p + q))] 22)
          have own1 : (w8.alloc (Obj.cells #[.int .u32 (U (p + q))] 22)).ownsRow W.heap.size 22 1 u14 ((stl (addSt s (stR C s 64))).take j).length (vus ((stl (addSt s (stR C s 64))).take j)) := HOD.out.alloc _
          have hsA : W.heap.size ≤ (w8.alloc (Obj.cells #[.int .u32 (U (p + q))] 22)).heap.size := Nat.le_trans BD.size (by simp)
          refine AnyBut.gone (i := 11) (by kernel_rfl) rfl (by rfl) (fun K hK => ?_)
          refine wp_app47 (.tmp 125) (.tmp 135) rfl rfl W.heap.size _ _ (vus ((stl (addSt s (stR C s 64))).take j)) rfl own1 (some ⟨w8.heap.size, 0, none⟩) 1 1 (vus [p + q]) rfl (src47_one w8 (p + q)) (fun h => by cases h) (by rw [List.length_take]; omega) hsA ?_
          intro vB wB ownB hgB
          have hbB : Below W.heap.size W wB := hbA.grown hgB hsA (fun g hg => (World.ownsRow.lt own1 g hg).1)
          have hS : (fun w' : World => w'.cell? ⟨sb, so + j, none⟩ = some (.int .u32 (U p)) ∧ w'.cell? ⟨lb, lo + j, none⟩ = some (.int .u32 (U q))) wB := ⟨by show wB.cell? _ = _; rw [hbB.cell (p := ⟨sb, so + j, none⟩) (Nat.lt_of_lt_of_le hs HX.out.bel.size)]; exact Hcp.out, by show wB.cell? _ = _; rw [hbB.cell (p := ⟨lb, lo + j, none⟩) HX.out.lt]; exact Hcq.out⟩
          refine hK _ _ (fun _ => hS) ?_
          clear hK K
          try simp only [Act.put, List.setIfInBounds_toArray, List.set_cons_zero, List.set_cons_succ, List.getElem_toArray, List.getElem_cons_zero, List.getElem_cons_succ]
          refine AnyBut.gone (i := 12) (by kernel_rfl) rfl (by rfl) (fun K hK => ?_)
          go_simp
          refine hK _ _ (fun h => absurd rfl h) ?_
          clear hK K
          refine AnyBut.done (by kernel_rfl) ?_ _
          dsimp only [Exit.then]
          have hown : OU wB W.heap.size vB ((stl (addSt s (stR C s 64))).take (j + 1)) := by
            have e : (stl (addSt s (stR C s 64))).take (j + 1) = (stl (addSt s (stR C s 64))).take j ++ [p + q] := by
              rw [List.take_succ_eq_append_getElem (show j < (stl (addSt s (stR C s 64))).length from hlt8), ← HSM.out]
              simp [List.getD, show j < (stl (addSt s (stR C s 64))).length from hlt8]
            unfold OU
            rw [e, List.length_append, show ∀ (l : List (BitVec 32)), vus (l ++ [p + q]) = vus l ++ vus [p + q] from fun l => by simp [vus]]
            exact ownB
          have HW := Lib.hid hown
          have HBB := Lib.hid hbB
          clear hown hbB ownB own1 hgB hbA hsA BD HOD hS
          go_wp2_with fail
          go_roundw
          case rel => exact ⟨j + 1, by omega, by simp, HBB.out, HW.out⟩
          case measure => simp [intOf]; omega
        · obtain rfl : j = 8 := by omega
          have e8 : (stl (addSt s (stR C s 64))).take 8 = stl (addSt s (stR C s 64)) := rfl
          rw [e8] at ho2'
          have HO2 := Lib.hid ho2'
          have HB2 := Lib.hid hb2'
          clear ho2' hb2' e8
          go_wp2_with fail
          go_ret
          exact ⟨_, rfl, mono_owns HO2.out HX.out.bel.size, HX.out.bel.trans (HB2.out.mono HX.out.bel.size)⟩
set_option maxRecDepth 100000
open Go.RowKit
set_option linter.unusedVariables false
set_option linter.unusedSimpArgs false
/-- How many noughts. -/
def nzOf (n : Nat) : Nat := (119 - n % 64) % 64
theorem nz_ok (n : Nat) : (n + 1 + nzOf n + 8) % 64 = 0 := by unfold nzOf; omega
theorem nz_least (n k : Nat) (h : k < nzOf n) : (n + 1 + k + 8) % 64 ≠ 0 := by unfold nzOf at h; omega
theorem nz_lt (n : Nat) : nzOf n < 64 := by unfold nzOf; omega
/-- The eight bytes of a number, of which the last k are laid. -/
def szK (x : Nat) (k : Nat) : List (BitVec 8) := (List.range 8).map fun j => if 8 ≤ j + k then BitVec.ofNat 8 (x / 256 ^ (7 - j)) else 0
def closeB (n : Nat) : List (BitVec 8) := 128 :: (List.replicate (nzOf n) 0 ++ szK (8 * n) 8)
theorem szK_len (x k : Nat) : (szK x k).length = 8 := by simp [szK]
theorem szK_step (x k : Nat) (hk : k < 8) : (szK x k).set (7 - k) (BitVec.ofNat 8 (x / 256 ^ k)) = szK x (k + 1) := by
  apply List.ext_getElem
  · simp [szK]
  · intro i h1 h2
    have hi : i < 8 := by simpa [szK] using h2
    simp only [szK, List.getElem_set, List.getElem_map, List.getElem_range]
    by_cases e : 7 - k = i
    · rw [if_pos e, if_pos (by omega), show 7 - i = k by omega]
    · rw [if_neg e]
      by_cases h : 8 ≤ i + k
      · rw [if_pos h, if_pos (by omega)]
      · rw [if_neg h, if_neg (by omega)]
theorem makes8 (w : World) : (Instr.makeSlice 27 (.int .i64 8) (.int .i64 8)).run Tryd.prog w = .ok (.slice (some ⟨w.heap.size, 0, none⟩) 8 8) (w.alloc (.cells (vbs (szK 0 0)).toArray 5)) := by
  kernel_rfl

theorem int30 : Tryd.prog.underlying 3 = some (.int .i64) := Tryd.underlying3
theorem nsc (k : Nat) (hk : k < 64) : Builtin.nextslicecap (1 + k) 1 * 1 ≤ 281474976710656 := by
  have h : ∀ q : Fin 64, Builtin.nextslicecap (1 + q.val) 1 * 1 ≤ 281474976710656 := by decide +kernel
  exact h ⟨k, hk⟩
theorem run_zeros (w0 : World) (k : Nat) (hk : k < 64) : ∃ v' w', (Builtin.append_ #[27, 3] 27 #[.slice (some ⟨w0.heap.size, 0, none⟩) 1 1, .int .i64 k]).run Tryd.prog (w0.alloc (.cells #[.int .u8 128] 5)) = .ok v' w' ∧ OB w' w0.heap.size v' (128 :: List.replicate k 0) ∧ Below w0.heap.size w0 w' := by
  have hb1 : Below w0.heap.size w0 (w0.alloc (.cells #[.int .u8 128] 5)) := (Below.refl _ _).alloc (Nat.le_refl _) _
  by_cases h0 : k = 0
  · subst h0
    refine ⟨.slice (some ⟨w0.heap.size, 0, none⟩) 1 1, w0.alloc (.cells #[.int .u8 128] 5), by kernel_rfl, ?_, hb1⟩
    exact ⟨rfl, .inr ⟨w0.heap.size, 1, _, rfl, Nat.le_refl _, heap_alloc_new w0 _, Nat.le_refl _, by unfold maxLen; omega, rfl, rfl⟩⟩
  · obtain ⟨i0, hi, hz0, hz1, hz2⟩ := info_parts info5
    have hold : (Builtin.firstCells i0.size 1 (.slice (some ⟨w0.heap.size, 0, none⟩) 1 1)).run Tryd.prog (w0.alloc (.cells #[.int .u8 128] 5)).drew = .ok [Value.int .u8 128].toArray (w0.alloc (.cells #[.int .u8 128] 5)).drew :=
      run_firstCells_some (P := Tryd.prog) _ i0.size 1 ⟨w0.heap.size, 0, none⟩ 1 1 [.int .u8 128] (by rw [hz1]; rfl) (fun j u hj => by
        have : j = 0 := by have := (List.getElem?_eq_some_iff.1 hj).1; simp at this; omega
        subst this
        rw [Addr.add_mid]
        show (w0.alloc (.cells #[.int .u8 128] 5)).cell? _ = _
        rw [← hj]; exact cell_new rfl rfl)
    have hr := Lib.run_append_grow_zeros (P := Tryd.prog) (w0.alloc (.cells #[.int .u8 128] 5)) 27 3 27 5 i0 (.int .u8 0) .i64 .i64 Tryd.underlying27 int30 hi hz0 (some ⟨w0.heap.size, 0, none⟩) 1 1 [.int .u8 128] hold k (by omega) (by rw [hz1]; omega) (by omega) (by omega) (by rw [hz2]; omega) (by rw [hz2]; exact nsc k hk)
    refine ⟨_, _, hr, ?_, (hb1.drew).alloc (by simp) _⟩
    have hge := grownCap_ge (w0.alloc (.cells #[.int .u8 128] 5)) (1 + k) 1 5
    have hcm := grownCap_le_maxLen (w0.alloc (.cells #[.int .u8 128] 5)) (1 + k) 1 5 (by unfold maxLen; omega)
    generalize grownCap (w0.alloc (.cells #[.int .u8 128] 5)) (1 + k) 1 5 = G at hge hcm ⊢
    have hl : (128 :: List.replicate k (0 : BitVec 8)).length = 1 + k := by simp; omega
    unfold OB
    rw [hl]
    refine ⟨by rw [vbs_len, hl, Nat.mul_one], .inr ⟨(w0.alloc (.cells #[.int .u8 128] 5)).heap.size, G, _, rfl, by simp, heap_alloc_new (w0.alloc (.cells #[.int .u8 128] 5)).drew _, hge, hcm, ?_, ?_⟩⟩
    · simp [size_zeroCells, Value.cells]; omega
    · have e : ∀ m, (Builtin.zeroCells (Value.cells (.int .u8 0)) m).toList = List.replicate m (Value.int .u8 0) := fun m => by
        apply List.ext_getElem
        · simp [Builtin.zeroCells, Value.cells]
        · intro i h1 h2; simp [Builtin.zeroCells, Value.cells, Nat.mod_one]
      rw [Array.toList_append, Array.toList_append, e, e, List.toList_toArray, Nat.mul_one]
      have hv : vbs (128 :: List.replicate k (0 : BitVec 8)) = [Value.int .u8 128] ++ List.replicate k (Value.int .u8 0) := by
        simp [vbs]; exact ⟨rfl, Or.inr rfl⟩
      rw [hv]
      have : 1 + k = ([Value.int .u8 128] ++ List.replicate k (Value.int .u8 0)).length := by simp; omega
      rw [this]; exact List.take_left

theorem wpList_zeros {w0 : World} {ops : Array Oper} {rest : List Oper} {o : Oper} {a : Act} {Q : Exit → Act → World → Prop} (hgd : o.guard = none) (s x : Operand) (ho : o.op = .call { callee := .builtin .append, args := #[s, x], argTypes := #[27, 3] }) (hty : o.type = 27)
    (k : Nat) (hk : k < 64) (hs : a.eval s = .slice (some ⟨w0.heap.size, 0, none⟩) 1 1) (hx : a.eval x = .int .i64 k)
    (h : ∀ v' w', OB w' w0.heap.size v' (128 :: List.replicate k 0) → Below w0.heap.size w0 w' → wpList Tryd.prog ops Q rest (a.put o.dst v') w') : wpList Tryd.prog ops Q (o :: rest) a (w0.alloc (.cells #[.int .u8 128] 5)) := by
  refine wpList_plain hgd fun K hK => ?_
  obtain ⟨v', w', hr, h2, h3⟩ := run_zeros w0 k hk
  unfold Oper.wp execOp
  simp only [ho, resolve, invoke, builtin, Sem.run_bind, Sem.run_pure, Result.andThen_ok, List.map_toArray, List.map_cons, List.map_nil, hs, hx]
  rw [hty]
  simp only [hr]
  exact hK _ _ (h v' w' h2 h3)
theorem mono_own {w : World} {B B' : Nat} {v : Value} {L : List (BitVec 8)} (h : OB w B v L) (hb : B' ≤ B) : OB w B' v L :=
  ⟨h.1, h.2.imp id fun ⟨g, cap, cur, h1, h2, h3⟩ => ⟨g, cap, cur, h1, Nat.le_trans hb h2, h3⟩⟩
structure CZ (w : World) (x k : Nat) (wq : World) : Prop where
  bel : Below w.heap.size w wq
  sz : Blk wq w.heap.size 5 (vbs (szK x k))
set_option maxRecDepth 100000 in
set_option maxHeartbeats 2000000 in
theorem closing_any (n : Nat) (hn : n < 1152921504606846976) (w : World) :
    Calls Tryd.prog 78 #[.int .i64 n] w fun e w' => ∃ v, e = .returned v ∧ OB w' w.heap.size v (closeB n) ∧ Below w.heap.size w w' := by
  have hm := makes8 w
  have h0 : CZ w (8 * n) 0 (w.alloc (.cells (vbs (szK 0 0)).toArray 5)) := ⟨(Below.refl _ _).alloc (Nat.le_refl _) _, by
    have := Blk.new w 5 (vbs (szK 0 0)).toArray
    rw [List.toList_toArray] at this
    have e : szK (8 * n) 0 = szK 0 0 := rfl
    rw [e]; exact this⟩
  have H0 := Lib.hid h0
  have n1 : IntKind.u64.wrap (n : Int) = (n : Int) := by rw [IntKind.wrap_u64]; omega
  have n2 : IntKind.u64.wrap ((n : Int) * 8) = ((8 * n : Nat) : Int) := by rw [IntKind.wrap_u64]; omega
  clear h0
  go_enter Tryd.func78, Tryd.ntmps78
  go_upto_region 4 with fail
  generalize w.alloc (.cells (vbs (szK 0 0)).toArray 5) = w3 at H0 ⊢
  clear hm n1 n2
  go_wp2_with fail
  go_loopw [4, 5] (fun x i wq => ∃ k : Nat, k ≤ 8 ∧ i = .int .i64 (7 - (k : Int)) ∧ x = .int .u64 ((8 * n / 256 ^ k : Nat) : Int) ∧ CZ w (8 * n) k wq) (fun _ i _ => (intOf i + 1).toNat)
  case atStart => exact ⟨0, Nat.zero_le _, rfl, by simp, H0.out⟩
  case round =>
    obtain ⟨k, hk, rfl, rfl, hX⟩ := hrel
    have HX := Lib.hid hX
    clear H0
    by_cases hlt : k < 8
    · have k1 : (0 : Int) ≤ 7 - (k : Int) := by omega
      have k2 : 7 - (k : Int) < 8 := by omega
      have k3 : (7 - (k : Int)).toNat = 7 - k := by omega
      have c0 := hX.sz.cell (vbs_at (l := szK (8 * n) k) (j := 7 - k) (by rw [szK_len]; omega))
      have f0 := hX.sz.free (7 - k)
      have k4 : IntKind.i64.wrap (7 - (k : Int) - 1) = 7 - ((k + 1 : Nat) : Int) := by rw [IntWalk.i64_in _ (by omega)]; omega
      obtain ⟨q, hq⟩ : ∃ q, q = 8 * n / 256 ^ k := ⟨_, rfl⟩
      have hqb : q < 18446744073709551616 := by rw [hq]; exact Nat.lt_of_le_of_lt (Nat.div_le_self _ _) (by omega)
      have hq1 : 8 * n / 256 ^ (k + 1) = q / 256 := by rw [hq, Nat.pow_succ, Nat.div_div_eq_div_mul]
      have HQ := Lib.hid hq
      have HQ1 := Lib.hid hq1
      rw [← hq]
      clear hq hq1 hX
      have q1 : IntKind.u8.wrap (IntKind.u64.wrap ((q : Int).tmod 256)) = Bt (BitVec.ofNat 8 q) := by
        rw [Int.tmod_eq_emod_of_nonneg (Int.natCast_nonneg _), IntKind.wrap_u64, IntKind.wrap_u8']
        unfold Bt
        rw [BitVec.toNat_ofNat]
        omega
      have q1' : IntKind.u8.wrap ((q : Int).tmod 256) = Bt (BitVec.ofNat 8 q) := by
        rw [Int.tmod_eq_emod_of_nonneg (Int.natCast_nonneg _), IntKind.wrap_u8']
        unfold Bt
        rw [BitVec.toNat_ofNat]
        omega
      have q2 : IntKind.u64.wrap ((q : Int).tdiv 256) = ((q / 256 : Nat) : Int) := by
        rw [Int.tdiv_eq_ediv_of_nonneg (Int.natCast_nonneg _), IntKind.wrap_u64]
        omega
      go_wp2_with fail
      go_roundw
      case rel =>
        refine ⟨k + 1, by omega, by congr 1, by rw [HQ1.out]; simp, HX.out.bel.setCell (Nat.le_refl _) _, ?_⟩
        have h1 := HX.out.sz.set (7 - k) (.int .u8 (Bt (BitVec.ofNat 8 q)))
        rw [vbs_set, HQ.out, szK_step (8 * n) k hlt] at h1
        have e : (q : Int) % 256 = Bt (BitVec.ofNat 8 (8 * n / 256 ^ k)) := by
          rw [← HQ.out]; unfold Bt; rw [BitVec.toNat_ofNat]; omega
        rw [e]; exact h1
      case measure => simp [intOf]; omega
    · obtain rfl : k = 8 := by omega
      go_wp2_with fail
      clear hX
      go_loopw [6] (fun i wq => ∃ k : Nat, k ≤ nzOf n ∧ i = .int .i64 k ∧ CZ w (8 * n) 8 wq) (fun i _ => nzOf n - (intOf i).toNat)
      case atStart => exact ⟨0, Nat.zero_le _, rfl, HX.out⟩
      case round =>
        obtain ⟨k, hk, rfl, hX⟩ := hrel
        clear HX
        have HX := Lib.hid hX
        clear hX
        have hk64 : k < 64 := Nat.lt_of_le_of_lt hk (nz_lt n)
        have e1 : IntKind.i64.wrap ((n : Int) + 1) = (n : Int) + 1 := IntWalk.i64_in _ (by omega)
        have e2 : IntKind.i64.wrap ((n : Int) + 1 + (k : Int)) = (n : Int) + 1 + (k : Int) := IntWalk.i64_in _ (by omega)
        have e3 : IntKind.i64.wrap ((n : Int) + 1 + (k : Int) + 8) = (n : Int) + 1 + (k : Int) + 8 := IntWalk.i64_in _ (by omega)
        have e4 : ((n : Int) + 1 + (k : Int) + 8).tmod 64 = (((n + 1 + k + 8) % 64 : Nat) : Int) := by rw [Int.tmod_eq_emod_of_nonneg (by omega)]; omega
        have e5 : IntKind.i64.wrap (((n + 1 + k + 8) % 64 : Nat) : Int) = (((n + 1 + k + 8) % 64 : Nat) : Int) := IntWalk.i64_in _ (by omega)
        obtain ⟨r, hr⟩ : ∃ r, r = (n + 1 + k + 8) % 64 := ⟨_, rfl⟩
        have HR := Lib.hid hr
        rw [← hr] at e4 e5
        clear hr
        by_cases hlt : k < nzOf n
        · have hne : r ≠ 0 := by rw [HR.out]; exact nz_least n k hlt
          have b1 : ((r : Int) == 0) = false := by simp; omega
          have b2 : (r : Int) ≠ 0 := by omega
          go_wp2_with fail
          go_roundw
          case rel => exact ⟨k + 1, by omega, by simp, HX.out⟩
          case measure => simp [intOf]; omega
        · obtain rfl : k = nzOf n := by omega
          have hz : r = 0 := by rw [HR.out]; exact nz_ok n
          have b1 : ((r : Int) == 0) = true := by simp; omega
          have HL : Hid (wr.heap.size ≥ w.heap.size + 1) := HX.out.sz.lt
          subst hz
          go_upto_region 12 with (refine wpList_zeros (o := ⟨some 35, _, _, _, _, _⟩) rfl (.tmp 33) (.tmp 34) rfl rfl (nzOf n) hk64 rfl rfl ?_; intro v1 w1 ho1 hb1)
          have hszB : Blk w1 w.heap.size 5 (vbs (szK (8 * n) 8)) := HX.out.sz.below hb1 HX.out.sz.lt
          have hbel : Below w.heap.size w w1 := HX.out.bel.trans (hb1.mono HX.out.bel.size)
          have HO := Lib.hid ho1
          have hs1 := Lib.hid (src_of_blk hszB)
          have HB1 := Lib.hid hbel
          have HBs := Lib.hid hb1.size
          have hBB := Lib.hid HX.out.bel.size
          have l8 : Hid (8 = (szK (8 * n) 8).length) := (szK_len _ _).symm
          have lb : Hid ((128 :: List.replicate (nzOf n) (0 : BitVec 8)).length + (szK (8 * n) 8).length ≤ 140737488355328) := by
            show (128 :: List.replicate (nzOf n) (0 : BitVec 8)).length + (szK (8 * n) 8).length ≤ _
            rw [szK_len]; simp; omega
          clear ho1 hszB hb1 hbel
          go_wp2_with (refine wpList_push (o := ⟨some 38, _, _, _, _, _⟩) rfl (.tmp 36) (.tmp 37) rfl rfl wr.heap.size v1 (128 :: List.replicate (nzOf n) 0) (szK (8 * n) 8) rfl HO.out (some ⟨w.heap.size, 0, none⟩) 8 8 rfl l8.out hs1.out (fun h => by cases h) lb.out HB1.out HBs.out hBB.out ?_; intro v2 w2 h1 h2 h3)
          go_ret
          exact ⟨_, rfl, mono_own h1 hBB.out, h2⟩
open Go.RowKit
set_option linter.unusedVariables false
set_option linter.unusedSimpArgs false
set_option maxRecDepth 100000 in
set_option maxHeartbeats 2000000 in
theorem rnums_any (w : World) : Calls Tryd.prog 79 #[] w fun e w' => e = .returned (.slice (some ⟨w.heap.size, 0, none⟩) 64 64) ∧ Blk w' w.heap.size 22 (vus KK) ∧ Below w.heap.size w w' := by
  go_enter Tryd.func79, Tryd.ntmps79
  go_wp2
  go_ret
  exact ⟨rfl, Blk.new w 22 (vus KK).toArray, (Below.refl _ _).alloc (Nat.le_refl _) _⟩
set_option maxRecDepth 100000 in
set_option maxHeartbeats 2000000 in
theorem shaFirst_any (w : World) : Calls Tryd.prog 80 #[] w fun e w' => e = .returned (.slice (some ⟨w.heap.size, 0, none⟩) 8 8) ∧ Blk w' w.heap.size 22 (vus (stl ini)) ∧ Below w.heap.size w w' := by
  go_enter Tryd.func80, Tryd.ntmps80
  go_wp2
  go_ret
  exact ⟨rfl, Blk.new w 22 (vus (stl ini)).toArray, (Below.refl _ _).alloc (Nat.le_refl _) _⟩
open Go.RowKit
set_option linter.unusedVariables false
set_option linter.unusedSimpArgs false
/-- The digest as the document's own Sum makes it: over all chunks of the text with its closing. -/
def sumR (R : List (BitVec 8)) : List (BitVec 8) := joinB (blocks change ini (R ++ closeB R.length) ((R ++ closeB R.length).length / 64))
theorem close_len (n : Nat) : (closeB n).length = 9 + nzOf n := by simp [closeB, szK]; omega
theorem all_len (R : List (BitVec 8)) : (R ++ closeB R.length).length = 64 * (R.length / 64 + manyOf (R.length % 64)) := by
  rw [List.length_append, close_len]
  unfold nzOf manyOf
  split <;> omega
/-- The state behind some chunks and then others is that behind all. -/
theorem blocks_add (ch : St → List (BitVec 8) → St) (S : St) (R : List (BitVec 8)) (p : Nat) (q : Nat) : blocks ch S R (p + q) = blocks ch (blocks ch S R p) (R.drop (64 * p)) q := by
  induction q with
  | zero => rfl
  | succ q ih =>
    show ch (blocks ch S R (p + q)) ((R.drop (64 * (p + q))).take 64) = ch (blocks ch (blocks ch S R p) (R.drop (64 * p)) q) (((R.drop (64 * p)).drop (64 * q)).take 64)
    rw [ih, List.drop_drop, show 64 * p + 64 * q = 64 * (p + q) by omega]
theorem blocks_take (ch : St → List (BitVec 8) → St) (S : St) (R E : List (BitVec 8)) (p : Nat) (h : 64 * p ≤ R.length) : blocks ch S (R ++ E) p = blocks ch S R p := by
  induction p with
  | zero => rfl
  | succ p ih =>
    show ch (blocks ch S (R ++ E) p) (((R ++ E).drop (64 * p)).take 64) = ch (blocks ch S R p) ((R.drop (64 * p)).take 64)
    rw [ih (by omega), List.drop_append_of_le_length (by omega), List.take_append_of_le_length (by rw [List.length_drop]; omega)]
theorem blocks_pre (ch : St → List (BitVec 8) → St) (S : St) (A B : List (BitVec 8)) (p : Nat) (h : A.take (64 * p) = B.take (64 * p)) : blocks ch S A p = blocks ch S B p := by
  induction p with
  | zero => rfl
  | succ p ih =>
    have h1 : A.take (64 * p) = B.take (64 * p) := by
      have := congrArg (List.take (64 * p)) h
      rwa [List.take_take, List.take_take, Nat.min_eq_left (by omega)] at this
    have h2 : (A.drop (64 * p)).take 64 = (B.drop (64 * p)).take 64 := by
      have := congrArg (List.drop (64 * p)) h
      rwa [List.drop_take, List.drop_take, show 64 * (p + 1) - 64 * p = 64 by omega] at this
    show ch (blocks ch S A p) _ = ch (blocks ch S B p) _
    rw [ih h1, h2]
theorem padK_get (E : List (BitVec 8)) (last len k i : Nat) (hi : i < E.length) (hk : k ≤ last + 1) (hle : i ≤ last) (hl : last < E.length) : (padK E last len k)[i]? = if last < i + k then some (lenByte len (last - i)) else E[i]? := by
  induction k with
  | zero => rw [if_neg (by omega)]; rfl
  | succ k ih =>
    show ((padK E last len k).set (last - k) (lenByte len k))[i]? = _
    rw [List.getElem?_set]
    by_cases e : last - k = i
    · rw [if_pos e, if_pos (show last - k < (padK E last len k).length by rw [padK_len]; omega), if_pos (by omega), show last - i = k by omega]
    · rw [if_neg e, ih (by omega)]
      by_cases h : last < i + k
      · rw [if_pos h, if_pos (by omega)]
      · rw [if_neg h, if_neg (by omega)]
theorem padE_get (R : List (BitVec 8)) (i : Nat) (hR : R.length ≤ 63) (hi : i < 128) : (padE R)[i]? = some (if i < R.length then R.getD i 0 else if i = R.length then 128 else 0) := by
  unfold padE
  rw [List.getElem?_set]
  by_cases e : R.length = i
  · rw [if_pos e, if_pos (by simp; omega), if_neg (by omega), if_pos e.symm]
  · rw [if_neg e]
    by_cases h : i < R.length
    · rw [if_pos h, List.getElem?_append_left h]; simp [List.getD, h]
    · rw [if_neg h, if_neg (by omega), List.getElem?_append_right (by omega), List.getElem?_replicate, if_pos (by omega)]
/-- The padded end, byte by byte. -/
theorem padEnd_get (R : List (BitVec 8)) (len i : Nat) (hR : R.length ≤ 63) (hi : i < 64 * manyOf R.length) :
    (padEnd R len)[i]? = some (if i < R.length then R.getD i 0 else if i = R.length then 128 else if 64 * manyOf R.length - 8 ≤ i then lenByte len (64 * manyOf R.length - 1 - i) else 0) := by
  have hm : 1 ≤ manyOf R.length ∧ manyOf R.length ≤ 2 ∧ R.length + 9 ≤ 64 * manyOf R.length := by unfold manyOf; split <;> omega
  unfold padEnd
  rw [padK_get _ _ _ _ _ (by rw [padE_len R hR]; omega) (by omega) (by omega) (by rw [padE_len R hR]; omega), padE_get R i hR (by omega)]
  by_cases h : 64 * manyOf R.length - 1 < i + 8
  · rw [if_pos h, if_neg (by omega), if_neg (by omega), if_pos (by omega)]
  · rw [if_neg h, if_neg (show ¬ 64 * manyOf R.length - 8 ≤ i by omega)]
theorem close_get (n i : Nat) (hi : i < 9 + nzOf n) : (closeB n)[i]? = some (if i = 0 then 128 else if i ≤ nzOf n then 0 else BitVec.ofNat 8 (8 * n / 256 ^ (8 + nzOf n - i))) := by
  unfold closeB
  cases i with
  | zero => rfl
  | succ i =>
    rw [List.getElem?_cons_succ, if_neg (by omega)]
    by_cases h : i < nzOf n
    · rw [if_pos (by omega), List.getElem?_append_left (by simpa using h), List.getElem?_replicate, if_pos h]
    · rw [if_neg (by omega), List.getElem?_append_right (by simp; omega), List.length_replicate]
      have h8 : i - nzOf n < 8 := by omega
      simp only [szK, List.getElem?_map, List.getElem?_range h8, Option.map_some]
      rw [if_pos (by omega), show 7 - (i - nzOf n) = 8 + nzOf n - (i + 1) by omega]
theorem sumR_eq (R : List (BitVec 8)) (hl : R.length < 1152921504606846976) : sumR R = sumB R := by
  unfold sumR sumB finB fin
  rw [all_len R, Nat.mul_div_cancel_left _ (by omega : 0 < 64), blocks_add, blocks_take _ _ _ _ _ (by omega), List.drop_append_of_le_length (by omega), Nat.zero_add]
  congr 1
  apply blocks_pre
  have hr : (R.drop (64 * (R.length / 64))).length = R.length % 64 := by rw [List.length_drop]; omega
  obtain ⟨Q, hQ⟩ : ∃ Q, Q = R.drop (64 * (R.length / 64)) := ⟨_, rfl⟩
  rw [← hQ] at hr ⊢
  rw [← hr]
  have hm : Q.length + 9 + nzOf R.length = 64 * manyOf Q.length := by
    rw [hr]; unfold nzOf manyOf; split <;> omega
  have hq63 : Q.length ≤ 63 := by omega
  apply List.ext_getElem?
  intro i
  rw [List.getElem?_take, List.getElem?_take]
  by_cases hi : i < 64 * manyOf Q.length
  · rw [if_pos hi, if_pos hi, padEnd_get Q R.length i hq63 hi]
    by_cases h1 : i < Q.length
    · rw [if_pos h1, List.getElem?_append_left h1]; simp [List.getD, h1]
    · rw [if_neg h1, List.getElem?_append_right (by omega), close_get _ _ (by omega)]
      by_cases h2 : i = Q.length
      · rw [if_pos h2, if_pos (by omega)]
      · rw [if_neg h2, if_neg (by omega)]
        by_cases h3 : 64 * manyOf Q.length - 8 ≤ i
        · rw [if_pos h3, if_neg (by omega)]
          unfold lenByte
          rw [show (256 : Nat) = 2 ^ 8 from rfl, ← Nat.pow_mul, show 8 + nzOf R.length - (i - Q.length) = 64 * manyOf Q.length - 1 - i by omega]
        · rw [if_neg h3, if_pos (by omega)]
  · rw [if_neg hi, if_neg hi]
open Go.RowKit
set_option linter.unusedVariables false
set_option linter.unusedSimpArgs false
theorem wp_push {w : World} {o : Oper} {a : Act} {K : Act → World → Prop} {Q : Exit → Act → World → Prop} (s x : Operand) (ho : o.op = .call { callee := .builtin .append, args := #[s, x], argTypes := #[27, 27] }) (hty : o.type = 27)
    (B : Nat) (v : Value) (L M : List (BitVec 8)) (hs : a.eval s = v) (hown : OB w B v L) (A : Option Addr) (m c : Nat) (hx : a.eval x = .slice A m c) (hm : m = M.length) (hsr : Src22 w A M.length (vbs M)) (hc : A = none → c = 0) (hb : L.length + M.length ≤ 140737488355328) {w0 : World} {B' : Nat} (hbel : Below B' w0 w) (hB : B ≤ w.heap.size) (hBB : B' ≤ B)
    (h : ∀ v' w', OB w' B v' (L ++ M) → Below B' w0 w' → Below B w w' → K (a.put o.dst v') w') : o.wp Tryd.prog a w K Q := by
  subst hm
  exact wp_app s x ho hty B v L.length (vbs L) hs hown A M.length c (vbs M) hx hsr hc hb hB fun v' w' h2 h3 => by
    have hA := OB.app hown hbel hB hBB h2 h3
    exact h v' w' hA.1 hA.2 ((Below.refl B w).grown h3 hB (fun k hk => (World.ownsRow.lt hown k hk).1))
/-- What stays through the chunks. -/
structure shaSQ (w : World) (R : List (BitVec 8)) (A : Option Addr) (kb : Nat) (wq : World) : Prop where
  bel : Below w.heap.size w wq
  rd : Rd wq wq.heap.size A R
  k : Blk wq kb 22 (vus KK)
  r : Blk wq w.heap.size 38 (vbs Z32)
theorem shaSQ.below {w : World} {R : List (BitVec 8)} {A : Option Addr} {kb : Nat} {wq w' : World} (h : shaSQ w R A kb wq) (hb : Below wq.heap.size wq w') : shaSQ w R A kb w' :=
  ⟨h.bel.trans (hb.mono h.bel.size), rd_up (h.rd.keep hb) hb.size, h.k.below hb h.k.lt, h.r.below hb h.r.lt⟩
/-- The first k bytes of the digest. -/
def jb (S : St) (k : Nat) : List (BitVec 8) := (List.range 32).map fun j => if j < k then byteOf S j else 0
theorem jb_len (S : St) (k : Nat) : (jb S k).length = 32 := by simp [jb]
theorem jb_step (S : St) (k : Nat) (hk : k < 32) : (jb S k).set k (byteOf S k) = jb S (k + 1) := by
  apply List.ext_getElem
  · simp [jb]
  · intro i h1 h2
    simp only [jb, List.getElem_set, List.getElem_map, List.getElem_range]
    by_cases e : k = i
    · subst e; simp
    · simp only [e, if_false]
      by_cases h : i < k
      · rw [if_pos h, if_pos (by omega)]
      · rw [if_neg h, if_neg (by omega)]
theorem jb_end (S : St) : jb S 32 = joinB S := by
  unfold jb joinB
  apply List.map_congr_left
  intro j hj
  rw [if_pos (List.mem_range.1 hj)]
theorem jb_zero (S : St) : jb S 0 = Z32 := by
  apply List.ext_getElem
  · rw [jb_len, Z32_len]
  · intro i h1 h2
    have e : Z32[i] = 0 := by unfold Z32; exact List.getElem_replicate _
    rw [e]; simp [jb]
theorem stl_letter (S : St) (j : Nat) (h : j < 8) : (stl S).getD j 0 = letter S j := by
  have : j = 0 ∨ j = 1 ∨ j = 2 ∨ j = 3 ∨ j = 4 ∨ j = 5 ∨ j = 6 ∨ j = 7 := by omega
  rcases this with rfl | rfl | rfl | rfl | rfl | rfl | rfl | rfl <;> rfl
theorem U_div256 (x : BitVec 32) : IntKind.u32.wrap ((U x).tdiv 256) = U (x >>> 8) := by
  have h := x.isLt
  rw [IntKind.wrap_u32']
  unfold U
  rw [Int.tdiv_eq_ediv_of_nonneg (Int.natCast_nonneg _), BitVec.toNat_ushiftRight, Nat.shiftRight_eq_div_pow]
  omega
theorem U_byte (x : BitVec 32) : IntKind.u8.wrap ((U x).tmod 256) = Bt (x.setWidth 8) := by
  rw [IntKind.wrap_u8']
  unfold U Bt
  rw [Int.tmod_eq_emod_of_nonneg (Int.natCast_nonneg _), BitVec.toNat_setWidth]
  omega
theorem U_byte' (x : BitVec 32) : IntKind.u8.wrap (IntKind.u32.wrap ((U x).tmod 256)) = Bt (x.setWidth 8) := by
  rw [IntKind.wrap_u8', IntKind.wrap_u32']
  unfold U Bt
  rw [Int.tmod_eq_emod_of_nonneg (Int.natCast_nonneg _), BitVec.toNat_setWidth]
  omega
set_option maxRecDepth 100000 in
set_option maxHeartbeats 8000000 in
theorem rsum_any (A : Option Addr) (cap : Nat) (R : List (BitVec 8)) (w : World) (hR : Rd w w.heap.size A R) (hcap : R.length ≤ cap) (hA : A = none → cap = 0) (hl : R.length < 1000000000) :
    Calls Tryd.prog 57 #[.slice A R.length cap] w fun e w' => e = .returned (.agg (vbs (sumB R)).toArray) ∧ Below w.heap.size w w' := by
  rw [← sumR_eq R (by omega)]
  have hz : ∀ w, (zeroValue 38).run Tryd.prog w = .ok (.agg (vbs Z32).toArray) w := fun _ => by kernel_rfl
  have hb0 : Below w.heap.size w (w.alloc (Obj.cells (vbs Z32).toArray 38)) := (Below.refl _ _).alloc (Nat.le_refl _) _
  have hr0 := Blk.new w 38 (vbs Z32).toArray
  rw [List.toList_toArray] at hr0
  have HR0 := Lib.hid hr0
  have HB0 := Lib.hid hb0
  have HS0 := Lib.hid (src_of_rd (rd_up (hR.keep hb0) hb0.size))
  have HA := Lib.hid hA
  have HO0 := Lib.hid (OB.nil (w.alloc (Obj.cells (vbs Z32).toArray 38)) (w.heap.size + 1))
  have HBs := Lib.hid (show w.heap.size + 1 ≤ (w.alloc (Obj.cells (vbs Z32).toArray 38)).heap.size by simp)
  have HLen : Hid (([] : List (BitVec 8)).length + R.length ≤ 140737488355328) := by show ([] : List (BitVec 8)).length + R.length ≤ _; simp; omega
  clear hR hb0 hr0 hA
  go_enter Tryd.func57, Tryd.ntmps57
  go_upto_region 3 with (refine wpList_push (o := ⟨some 13, _, _, _, _, _⟩) rfl (.tmp 11) (.tmp 12) rfl rfl (w.heap.size + 1) _ [] R rfl HO0.out A R.length cap rfl rfl HS0.out HA.out HLen.out HB0.out HBs.out (Nat.le_succ _) ?_; intro v1 w1 ho1 hb1 hb1')
  have HR1 := Lib.hid (HR0.out.below hb1' (by omega))
  have HO1 := Lib.hid ho1
  have HB1 := Lib.hid hb1
  have HBs1 := Lib.hid (Nat.le_trans HBs.out hb1'.size)
  have HC := Lib.hid (closing_any R.length (by omega) w1)
  have HLen2 : Hid (([] ++ R).length + (closeB R.length).length ≤ 140737488355328) := by
    show ([] ++ R).length + (closeB R.length).length ≤ _
    have := nz_lt R.length
    rw [close_len, List.nil_append]; omega
  clear ho1 hb1 hb1' hz HR0 HB0 HS0 HO0 HLen HA
  go_upto_region 4 with (first | (go_at_call 78; (with_reducible refine HC.out.mono ?_); rintro e w2 ⟨v2, rfl, ho2, hb2⟩; dsimp only; obtain ⟨A2, cap2, rfl, hrd2, hl2, hm2, hn2⟩ := ho2.rd) | (refine wpList_push (o := ⟨some 18, _, _, _, _, _⟩) (w := w2) (v := v1) (L := [] ++ R) (M := closeB R.length) (B := w.heap.size + 1) (A := A2) (m := (closeB R.length).length) (c := cap2) (w0 := w) (B' := w.heap.size) rfl (.tmp 14) (.tmp 17) rfl rfl ?_ ?_ ?_ rfl ?_ ?_ ?_ ?_ ?_ ?_ ?_; (first | rfl | fail); (first | exact (OB.below (B' := 0) HO1.out hb2) | fail); (first | rfl | fail); (first | exact (src_of_rd hrd2) | fail); (first | exact hn2 | fail); (first | exact HLen2.out | fail); (first | exact (HB1.out.trans (hb2.mono HB1.out.size)) | fail); (first | exact (Nat.le_trans HBs1.out hb2.size) | fail); (first | exact (Nat.le_succ _) | fail); intro v3 w3 ho3 hb3 hb3'))
  have hr3 : Blk w3 w.heap.size 38 (vbs Z32) := (HR1.out.below hb2 HR1.out.lt).below hb3' (by omega)
  obtain ⟨ALL, hALL⟩ : ∃ ALL, ALL = R ++ closeB R.length := ⟨_, rfl⟩
  rw [List.nil_append, ← hALL] at ho3
  obtain ⟨A3, cap3, rfl, hrd3, hl3, hm3, hn3⟩ := ho3.rd
  have H3 := Lib.hid (⟨hr3, hb3, hrd3, hl3, hm3⟩ : Blk w3 w.heap.size 38 (vbs Z32) ∧ Below w.heap.size w w3 ∧ Rd w3 w3.heap.size A3 ALL ∧ ALL.length ≤ cap3 ∧ cap3 ≤ 9223372036854775807)
  have HALL := Lib.hid hALL
  clear hr3 hb3 hrd3 hl3 hm3 hn3 ho3 hb3' hALL hb2 ho2 hl2 hm2 hn2 hrd2 HC HO1 HB1 HBs1 HLen2 HR1
  go_upto_region 6 with (first | (go_at_call 79; (with_reducible refine (rnums_any _).mono ?_); rintro e w4 ⟨rfl, hk4, hb4⟩; dsimp only) | (go_at_call 80; (with_reducible refine (shaFirst_any _).mono ?_); rintro e w5 ⟨rfl, hf5, hb5⟩; dsimp only))
  have hSQ : shaSQ w ALL A3 w3.heap.size w5 := by
    have h4 : shaSQ w ALL A3 w3.heap.size w4 := ⟨H3.out.2.1.trans (hb4.mono H3.out.2.1.size), rd_up (H3.out.2.2.1.keep hb4) hb4.size, hk4, H3.out.1.below hb4 H3.out.1.lt⟩
    exact h4.below hb5
  have hcap3 : ALL.length ≤ cap3 := H3.out.2.2.2.1
  have hm3 : cap3 ≤ 9223372036854775807 := H3.out.2.2.2.2
  have hcl : ∀ j, j < 8 → w5.cell? ⟨w4.heap.size, 0 + j, none⟩ = some (.int .u32 (U ((stl ini).getD j 0))) := fun j hj => by
    rw [Nat.zero_add]; exact hf5.cell (vus_at hj)
  have HQ0 := Lib.hid hSQ
  have HF0 := Lib.hid (⟨hf5.lt, hcl⟩ : w4.heap.size < w5.heap.size ∧ _)
  generalize w3.heap.size = kb at HQ0 ⊢
  generalize w4.heap.size = fb at HF0 ⊢
  clear hSQ hcl hf5 hk4 hb4 hb5 H3
  obtain ⟨m, hm⟩ : ∃ m, ALL.length = 64 * m := ⟨R.length / 64 + manyOf (R.length % 64), by rw [HALL.out]; exact all_len R⟩
  obtain ⟨F, hlen, HF0', HFs⟩ : ∃ F : Nat → St, Hid (sumR R = joinB (F m)) ∧ F 0 = ini ∧ Hid (∀ k, change (F k) ((ALL.drop (64 * k)).take 64) = F (k + 1)) := by
    refine ⟨blocks change ini ALL, ?_, rfl, fun k => rfl⟩
    show sumR R = _
    unfold sumR
    rw [← HALL.out, hm, Nat.mul_div_cancel_left _ (by omega : 0 < 64)]
  rw [← HF0'] at HF0
  clear HF0'
  have hbig : ALL.length < 2000000000 := by
    rw [HALL.out, List.length_append, close_len]; have := nz_lt R.length; omega
  obtain ⟨L, hL⟩ : ∃ L, L = ALL.length := ⟨_, rfl⟩
  rw [← hL] at hm hcap3 hbig ⊢
  have HLL := Lib.hid hL
  clear hL hl hcap HBs
  go_wp2_with fail
  go_loopw [5, 6] (fun vs i wq => ∃ (k sb so c8 : Nat), k ≤ m ∧ i = .int .i64 ((64 * k : Nat) : Int) ∧ vs = .slice (some ⟨sb, so, none⟩) 8 c8 ∧ 8 ≤ c8 ∧ c8 ≤ 9223372036854775807 ∧ sb < wq.heap.size ∧ (∀ j, j < 8 → wq.cell? ⟨sb, so + j, none⟩ = some (.int .u32 (U ((stl (F k)).getD j 0)))) ∧ shaSQ w ALL A3 kb wq) (fun _ i _ => L - (intOf i).toNat)
  case atStart => exact ⟨0, fb, 0, 8, Nat.zero_le _, rfl, rfl, Nat.le_refl _, by omega, HF0.out.1, HF0.out.2, HQ0.out⟩
  case round =>
    obtain ⟨k, sb, so, c8, hk, rfl, rfl, hc8, hcm8, hsb, hsc, hX⟩ := hrel
    have HX := Lib.hid hX
    have HSC := Lib.hid hsc
    clear hX hsc HQ0 HF0
    by_cases hlt : k < m
    · have k1 : ((64 * k : Nat) : Int) < (L : Int) := by omega
      obtain ⟨b3, o3, rfl, hb3lt, hb3c⟩ := HX.out.rd (by rw [← HLL.out]; omega)
      have hC : ((ALL.drop (64 * k)).take 64).length = 64 := by rw [List.length_take, List.length_drop, ← HLL.out]; omega
      have hrdC : Rd wr wr.heap.size (some ⟨b3, o3 + 64 * k, none⟩) ((ALL.drop (64 * k)).take 64) := fun _ =>
        ⟨b3, o3 + 64 * k, rfl, hb3lt, fun j hj => by
          rw [hC] at hj
          rw [Nat.add_assoc, hb3c (64 * k + j) (by rw [← HLL.out]; omega)]
          simp [List.getD, List.getElem?_take, hj]⟩
      have hkc : ∀ j, j < 64 → wr.cell? ⟨kb, 0 + j, none⟩ = some (.int .u32 (U (KK.getD j 0))) := fun j hj => by
        rw [Nat.zero_add]; exact HX.out.k.cell (vus_at hj)
      have hch := rchange_walk ((ALL.drop (64 * k)).take 64) hC (F k) sb so c8 (some ⟨b3, o3 + 64 * k, none⟩) (cap3 - 64 * k) kb 0 64 wr hsb hc8 hcm8 HSC.out hrdC HX.out.k.lt hkc
      rw [← change_eq, HFs.out k] at hch
      have HCH := Lib.hid hch
      obtain ⟨i64, hi64⟩ : ∃ i64, i64 = 64 * k := ⟨_, rfl⟩
      have HI := Lib.hid hi64
      rw [← hi64] at HCH k1 ⊢
      have k2 : IntKind.i64.wrap ((i64 : Int) + 64) = (i64 : Int) + 64 := IntWalk.i64_in _ (by omega)
      have k3 : (0 : Int) ≤ (i64 : Int) := by omega
      have k4 : (i64 : Int) ≤ (i64 : Int) + 64 := by omega
      have k5 : (i64 : Int) + 64 ≤ (cap3 : Int) := by omega
      have k6 : ¬ cap3 = i64 := by omega
      have k7 : ((i64 : Int) + 64).toNat = i64 + 64 := by omega
      have k8 : i64 + 64 - i64 = 64 := by omega
      clear hch hkc hrdC hC hb3c hi64
      go_upto_region 8 with (go_at_call 81; (with_reducible refine HCH.out.mono ?_); rintro e w7 ⟨v7, rfl, ho7, hb7⟩; dsimp only)
      obtain ⟨g7, c7, rfl, _, hg7l, hc7, hm7, hcells7⟩ := ho7.eight rfl
      have H7 : Hid (∀ j, j < 8 → w7.cell? ⟨g7, 0 + j, none⟩ = some (.int .u32 (U ((stl (F (k + 1))).getD j 0)))) := hcells7
      have HX7 := Lib.hid (HX.out.below hb7)
      have k9 : IntKind.i64.wrap ((i64 : Int) + 64) = (i64 : Int) + 64 := k2
      clear hcells7 ho7 hb7 HSC HX HCH k6 k7 k8
      go_wp2_with fail
      go_roundw
      case rel => exact ⟨k + 1, g7, 0, c7, by omega, by congr 1; have := HI.out; omega, rfl, hc7, hm7, hg7l, H7.out, HX7.out⟩
      case measure => simp [intOf]; omega
    · obtain rfl : k = m := by omega
      have k1 : ¬ ((64 * k : Nat) : Int) < (L : Int) := by omega
      obtain ⟨i64, hi64⟩ : ∃ i64, i64 = 64 * k := ⟨_, rfl⟩
      rw [← hi64] at k1 ⊢
      clear hi64
      obtain ⟨S, hS⟩ : ∃ S, S = F k := ⟨_, rfl⟩
      have HSd := Lib.hid hS
      rw [← hS] at HSC
      clear hS
      generalize wr = W at HX HSC hsb ⊢
      have hz : ∀ w, (zeroValue 38).run Tryd.prog w = .ok (.agg (vbs Z32).toArray) w := fun _ => by kernel_rfl
      have HH0 := Lib.hid (show Below W.heap.size W (W.alloc (Obj.cells (vbs Z32).toArray 38)) ∧ Blk (W.alloc (Obj.cells (vbs Z32).toArray 38)) W.heap.size 38 (vbs (jb S 0)) from ⟨(Below.refl _ _).alloc (Nat.le_refl _) _, by
        have := Blk.new W 38 (vbs Z32).toArray
        rwa [List.toList_toArray, ← jb_zero S] at this⟩)
      go_upto_region 11 with fail
      generalize W.alloc (Obj.cells (vbs Z32).toArray 38) = w8 at HH0 ⊢
      clear hz
      go_wp2_with fail
      go_loopw [8] (fun i wq => ∃ j : Nat, j ≤ 32 ∧ i = .int .i64 j ∧ Below W.heap.size W wq ∧ Blk wq W.heap.size 38 (vbs (jb S j))) (fun i _ => 32 - (intOf i).toNat)
      case atStart => exact ⟨0, Nat.zero_le _, rfl, HH0.out⟩
      case round =>
        obtain ⟨j, hj, rfl, hb9, hB9⟩ := hrel
        clear HH0
        have HB9 := Lib.hid hb9
        have HK9 := Lib.hid hB9
        by_cases hj32 : j < 32
        · have j1 : (j : Int) < 32 := by omega
          have cl : wr.cell? ⟨sb, so + j / 4, none⟩ = some (.int .u32 (U (letter S (j / 4)))) := by
            rw [hb9.cell (p := ⟨sb, so + j / 4, none⟩) hsb, HSC.out (j / 4) (by omega), stl_letter S _ (by omega)]
          have q1 : IntKind.i64.wrap ((j : Int).tdiv 4) = ((j / 4 : Nat) : Int) := by rw [Int.tdiv_eq_ediv_of_nonneg (by omega), IntWalk.i64_in _ (by omega)]; omega
          have q2 : IntKind.i64.wrap ((j : Int).tmod 4) = ((j % 4 : Nat) : Int) := by rw [Int.tmod_eq_emod_of_nonneg (by omega), IntWalk.i64_in _ (by omega)]; omega
          have q2' : (j : Int).tmod 4 = ((j % 4 : Nat) : Int) := by rw [Int.tmod_eq_emod_of_nonneg (by omega)]; omega
          have q3 : (0 : Int) ≤ ((j / 4 : Nat) : Int) := by omega
          have q4 : ((j / 4 : Nat) : Int) < 8 := by omega
          have c9 := hB9.cell (vbs_at (l := jb S j) (j := j) (by rw [jb_len]; omega))
          have f9 := hB9.free j
          obtain ⟨x, hx⟩ : ∃ x, x = letter S (j / 4) := ⟨_, rfl⟩
          obtain ⟨jd, hjd⟩ : ∃ jd, jd = j / 4 := ⟨_, rfl⟩
          obtain ⟨jm, hjm⟩ : ∃ jm, jm = j % 4 := ⟨_, rfl⟩
          have HXl := Lib.hid (show x = letter S (j / 4) ∧ jm = j % 4 from ⟨hx, hjm⟩)
          have hjm4 : jm < 4 := by omega
          rw [← hx] at cl
          rw [← hjd] at cl q1 q3 q4
          rw [← hjm] at q2 q2'
          clear hx hjd hjm hb9 hB9
          have q5 : (j : Int).tdiv 4 = (jd : Int) := by rw [← q1, IntWalk.i64_in _ (by have := Int.tdiv_le_self (a := (j : Int)) 4 (by omega); have := Int.tdiv_nonneg (a := (j : Int)) (b := 4) (by omega) (by omega); omega)]
          go_wp2_with fail
          go_loopw [9, 10] (fun v n wq => ∃ t : Nat, jm + t ≤ 3 ∧ n = .int .i64 ((jm + t : Nat) : Int) ∧ v = .int .u32 (U (x >>> (8 * t))) ∧ wq = wr) (fun _ n _ => 3 - (intOf n).toNat)
          case atStart => exact ⟨0, by omega, rfl, by simp, rfl⟩
          case round =>
            obtain ⟨t, ht, rfl, rfl, rfl⟩ := hrel
            by_cases ht3 : jm + t < 3
            · have t1 : ((jm + t : Nat) : Int) < 3 := by omega
              have t2 := U_div256 (x >>> (8 * t))
              rw [← BitVec.shiftRight_add] at t2
              have t3 : IntKind.i64.wrap (((jm + t : Nat) : Int) + 1) = ((jm + (t + 1) : Nat) : Int) := by rw [IntWalk.i64_in _ (by omega)]; omega
              obtain ⟨n, hn⟩ : ∃ n, n = jm + t := ⟨_, rfl⟩
              rw [← hn] at t1 t3 ⊢
              have HN := Lib.hid hn
              clear hn
              go_wp2_with fail
              go_roundw
              case rel => exact ⟨t + 1, by omega, by first | rfl | (congr 1; have := HN.out; omega), by rw [show 8 * (t + 1) = 8 * t + 8 by omega], by first | rfl | trivial⟩
              case measure => have h9 := HN.out; simp [intOf]; omega
            · have t1 : ¬ ((jm + t : Nat) : Int) < 3 := by omega
              have t2 := U_byte (x >>> (8 * t))
              have t2' := U_byte' (x >>> (8 * t))
              have HTm := Lib.hid (show jm + t = 3 by omega)
              obtain ⟨n, hn⟩ : ∃ n, n = jm + t := ⟨_, rfl⟩
              rw [← hn] at t1 ⊢
              clear hn
              go_wp2_with fail
              go_roundw
              case rel =>
                refine ⟨j + 1, by omega, by simp, HB9.out.setCell (Nat.le_refl _) _, ?_⟩
                have h1 := HK9.out.set j (.int .u8 (Bt (byteOf S j)))
                rw [vbs_set, jb_step S j hj32] at h1
                have e : byteOf S j = (x >>> (8 * t)).setWidth 8 := by
                  unfold byteOf
                  have h1 := HXl.out
                  have h2 := HTm.out
                  rw [← h1.1, ← h1.2, show 24 - 8 * jm = 8 * t by omega]
                rw [e] at h1
                exact h1
              case measure => simp [intOf]; omega
        · obtain rfl : j = 32 := by omega
          have HIf := Lib.hid (i25 (vs := vbs (jb S 32)) (by rw [vbs_len, jb_len]))
          have HRg := Lib.hid hB9.range
          have hr9 : Blk wr w.heap.size 38 (vbs Z32) := HX.out.r.below hb9 HX.out.r.lt
          have HTh : Hid (wr.there w.heap.size 0 (vbs (jb S 32)).toArray.size) := there_z hr9 (jb_len _ _)
          have hbw : Below w.heap.size w wr := HX.out.bel.trans (hb9.mono HX.out.bel.size)
          have HR9 := Lib.hid hr9
          have HBW := Lib.hid hbw
          clear hb9 hB9 hr9 hbw
          go_wp2_with (first | (with_reducible refine wpList_load_mid rfl 38 (.tmp 7) rfl W.heap.size 0 rfl (vbs (jb S 32)) _ HRg.out Tryd.underlying38 rfl HIf.out ?_) | (with_reducible refine wpList_store_mid rfl 38 (.tmp 2) (.tmp 57) rfl w.heap.size 0 (vbs (jb S 32)).toArray rfl rfl HTh.out (info_arr HIf.out) (all_oneCell_toArray (vbs_one _)) ?_))
          have hSs := HR9.out.setCells (vbs (jb S 32)) (by rw [vbs_len, jb_len, vbs_len, Z32_len])
          have hSb := below_setCells (Nat.le_refl w.heap.size) (vbs (jb S 32)) 0 wr HBW.out
          generalize wr.setCells w.heap.size 0 (vbs (jb S 32)) = W8 at hSs hSb
          have e : sumR R = jb S 32 := by rw [hlen.out, jb_end, HSd.out]
          exact bodyPost_ret (v := .agg (vbs (jb S 32)).toArray) (results_cell_row Tryd.results57 _ W8 w.heap.size 38 (vbs (jb S 32)).toArray (0, 0) _ rfl hSs Tryd.underlying38 rfl (info_arr HIf.out)) rfl ⟨by rw [e], hSb⟩
open Go.RowKit
set_option linter.unusedVariables false
set_option linter.unusedSimpArgs false
structure TQ (w : World) (hb : Nat) (D : List (BitVec 8)) (wq : World) : Prop where
  bel : Below w.heap.size w wq
  r : Blk wq w.heap.size 38 (vbs Z32)
  h : Blk wq hb 38 (vbs D)
set_option maxRecDepth 100000 in
set_option maxHeartbeats 2000000 in
theorem rtwice_gen (sm : List (BitVec 8) → List (BitVec 8)) (sm_len : ∀ R, (sm R).length = 32)
    (hSum : ∀ (A : Option Addr) (cap : Nat) (R : List (BitVec 8)) (w : World), Rd w w.heap.size A R → R.length ≤ cap → (A = none → cap = 0) → R.length < 1000000000 →
      Calls Tryd.prog 57 #[.slice A R.length cap] w fun e w' => e = .returned (.agg (vbs (sm R)).toArray) ∧ Below w.heap.size w w')
    (A : Option Addr) (cap : Nat) (R : List (BitVec 8)) (w : World) (hR : Rd w w.heap.size A R) (hcap : R.length ≤ cap) (hA : A = none → cap = 0) (hl : R.length < 1000000000) :
    Calls Tryd.prog 38 #[.slice A R.length cap] w fun e w' => e = .returned (.agg (vbs (sm (sm R))).toArray) ∧ Below w.heap.size w w' := by
  have hz : ∀ w, (zeroValue 38).run Tryd.prog w = .ok (.agg (vbs Z32).toArray) w := fun _ => by kernel_rfl
  have hb0 : Below w.heap.size w (w.alloc (Obj.cells (vbs Z32).toArray 38)) := (Below.refl _ _).alloc (Nat.le_refl _) _
  have hr0 := Blk.new w 38 (vbs Z32).toArray
  rw [List.toList_toArray] at hr0
  have HR0 := Lib.hid hr0
  have HB0 := Lib.hid hb0
  have HS := Lib.hid (hSum A cap R (w.alloc (Obj.cells (vbs Z32).toArray 38)) (rd_up (hR.keep hb0) hb0.size) hcap hA hl)
  have KS := Lib.hid hSum
  have KL := Lib.hid sm_len
  obtain ⟨D, hD⟩ : ∃ D, D = sm R := ⟨_, rfl⟩
  have hDl : D.length = 32 := by rw [hD]; exact sm_len R
  have HDl := Lib.hid hDl
  obtain ⟨D2, hD2⟩ : ∃ D2, D2 = sm D := ⟨_, rfl⟩
  have HD2l := Lib.hid (show D2.length = 32 by rw [hD2]; exact sm_len D)
  have HD2 := Lib.hid hD2
  rw [← hD] at HS ⊢
  rw [← hD2]
  clear hR hb0 hr0 hA hSum sm_len hD hDl hD2
  go_enter Tryd.func38, Tryd.ntmps38
  go_upto_region 2 with (first | (go_at_call 57; (with_reducible refine HS.out.mono ?_); rintro e w1 ⟨rfl, hb1⟩; dsimp only) | (with_reducible refine wpList_store_mid rfl 38 (.tmp 3) (.tmp 7) rfl w1.heap.size 0 (vbs D).toArray rfl rfl (there_new25 w1 HDl.out) (i25v HDl.out) (all_oneCell_toArray (vbs_one _)) ?_))
  have hT : TQ w w1.heap.size D ((w1.alloc (Obj.cells (vbs Z32).toArray 38)).setCells w1.heap.size 0 (vbs D)) := by
    have b1 : Below w.heap.size w w1 := HB0.out.trans (hb1.mono (by simp))
    have r1 : Blk w1 w.heap.size 38 (vbs Z32) := HR0.out.below hb1 HR0.out.lt
    exact ⟨Below.laid b1 b1.size _, Blk.other_setCells (by have := r1.lt; omega) _ _ _ (r1.alloc _), Blk.laid w1 HDl.out⟩
  have hlt : w.heap.size < w1.heap.size := (HR0.out.below hb1 HR0.out.lt).lt
  have HT := Lib.hid hT
  generalize w1.heap.size = hb at HT hlt ⊢
  generalize World.setCells _ hb 0 _ = W at HT ⊢
  clear hT hb1 HS HR0 HB0 hz
  have hWs : hb + 1 ≤ W.heap.size := HT.out.h.lt
  go_wp2_with fail
  go_loopw [4, 5] (fun v i wq => ∃ j : Nat, j ≤ 32 ∧ i = .int .i64 j ∧ TQ w hb D wq ∧ hb + 1 ≤ wq.heap.size ∧ OB wq (hb + 1) v (D.take j)) (fun _ i _ => 32 - (intOf i).toNat)
  case atStart => exact ⟨0, Nat.zero_le _, rfl, HT.out, hWs, OB.nil _ _⟩
  case round =>
    obtain ⟨j, hj, rfl, hX, hs, ho⟩ := hrel
    clear HT hWs
    by_cases hj32 : j < 32
    · have j1 : (j : Int) < 32 := by omega
      have j0 : (0 : Int) ≤ (j : Int) := by omega
      have c0 := hX.h.cell (vbs_at (l := D) (j := j) (by rw [HDl.out]; omega))
      obtain ⟨x, hx⟩ : ∃ x, x = D.getD j 0 := ⟨_, rfl⟩
      have Hx := Lib.hid hx
      rw [← hx] at c0
      clear hx
      have HX := Lib.hid hX
      have HO := Lib.hid (ho.alloc (.cells #[.int .u8 (Bt x)] 5))
      have hs1 := Lib.hid (src_one wr x)
      have hB2 := Lib.hid (hX.bel.alloc hX.bel.size (.cells #[.int .u8 (Bt x)] 5))
      have hBs := Lib.hid (show hb + 1 ≤ (wr.alloc (.cells #[.int .u8 (Bt x)] 5)).heap.size from Nat.le_trans hs (by simp))
      have hLn : Hid ((D.take j).length + [x].length ≤ 140737488355328) := by
        show (D.take j).length + [x].length ≤ _
        rw [List.length_take]; simp; omega
      clear hX ho
      go_upto_region 5 with (refine wpList_push (o := ⟨some 17, _, _, _, _, _⟩) rfl (.tmp 12) (.tmp 16) rfl rfl (hb + 1) _ (D.take j) [x] rfl HO.out (some ⟨wr.heap.size, 0, none⟩) 1 1 rfl (one_len _) hs1.out (fun h => by cases h) hLn.out hB2.out hBs.out (by omega) ?_; intro v' w' h1 h2 h3)
      have e : D.take (j + 1) = D.take j ++ [x] := by
        rw [List.take_succ_eq_append_getElem (by rw [HDl.out]; omega), Hx.out]
        simp [List.getD, HDl.out, hj32]
      rw [← e] at h1
      have hX' : TQ w hb D w' := ⟨h2, (HX.out.r.alloc _).below h3 (by omega), (HX.out.h.alloc _).below h3 (by omega)⟩
      have HX' := Lib.hid hX'
      have H1 := Lib.hid h1
      have H3 := Lib.hid (Nat.le_trans hBs.out h3.size)
      clear hX' h1 h2 h3 e HO hs1 hB2 hBs hLn c0
      go_wp2_with fail
      go_roundw
      case rel => exact ⟨j + 1, by omega, by simp, HX'.out, H3.out, H1.out⟩
      case measure => simp [intOf]; omega
    · obtain rfl : j = 32 := by omega
      have e32 : D.take 32 = D := List.take_of_length_le (by rw [HDl.out]; omega)
      rw [e32] at ho
      obtain ⟨A4, c4, rfl, hrd4, hl4, hm4, hn4⟩ := ho.rd
      have HS2 := Lib.hid (KS.out A4 c4 D wr hrd4 hl4 hn4 (by rw [HDl.out]; omega))
      rw [← HD2.out] at HS2
      have HX := Lib.hid hX
      have HTh : Hid (∀ w9, Below wr.heap.size wr w9 → w9.there w.heap.size 0 (vbs D2).toArray.size) := fun w9 hb9 => there_z (HX.out.r.below hb9 HX.out.r.lt) HD2l.out
      obtain ⟨n, hn⟩ : ∃ n, n = D.length := ⟨_, rfl⟩
      rw [← hn] at HS2 ⊢
      clear hX ho hrd4 hl4 hm4 hn4 hn e32
      go_wp2_with (first | (go_at_call 57; (with_reducible refine HS2.out.mono ?_); rintro e w9 ⟨rfl, hb9⟩; dsimp only) | (with_reducible refine wpList_store_mid rfl 38 (.tmp 2) (.tmp 19) rfl w.heap.size 0 (vbs D2).toArray rfl rfl (HTh.out w9 hb9) (i25v HD2l.out) (all_oneCell_toArray (vbs_one _)) ?_))
      have hSs := (HX.out.r.below hb9 HX.out.r.lt).setCells (vbs D2) (by rw [vbs_len, HD2l.out, vbs_len, Z32_len])
      have hSb := below_setCells (Nat.le_refl w.heap.size) (vbs D2) 0 w9 (HX.out.bel.trans (hb9.mono HX.out.bel.size))
      generalize w9.setCells w.heap.size 0 (vbs D2) = W8 at hSs hSb
      exact bodyPost_ret (v := .agg (vbs D2).toArray) (results_cell_row Tryd.results38 _ W8 w.heap.size 38 (vbs D2).toArray (0, 0) _ rfl hSs Tryd.underlying38 rfl (i25v HD2l.out)) rfl ⟨rfl, hSb⟩
theorem rtwice_any (A : Option Addr) (cap : Nat) (R : List (BitVec 8)) (w : World) (hR : Rd w w.heap.size A R) (hcap : R.length ≤ cap) (hA : A = none → cap = 0) (hl : R.length < 1000000000) :
    Calls Tryd.prog 38 #[.slice A R.length cap] w fun e w' => e = .returned (.agg (vbs (twiceB R)).toArray) ∧ Below w.heap.size w w' :=
  rtwice_gen sumB sumB_len (fun A cap R w h1 h2 h3 h4 => rsum_any A cap R w h1 h2 h3 h4) A cap R w hR hcap hA hl
open Go.RowKit
set_option linter.unusedVariables false
set_option linter.unusedSimpArgs false
set_option maxRecDepth 100000
theorem rlay_any (t : TTx) (i o : Value) (full : Bool) (w : World) (h : TxOk w w.heap.size t i o) (hc : chk t = 0) : Calls Tryd.prog 29 #[txV t i o, .bool full] w (LaidPost (layB t full) w) := by
  cases full
  · exact rlay_false t i o w h hc
  · exact rlay_true t i o w h hc
/-- The box of a transaction that came by value. -/
theorem tx_box (ver lock : Int) (i o : Value) (w : World) (T : TypeId) : ∀ wq, SB (w.alloc (.cells #[.int .u32 ver, i, o, .int .u32 lock] T)) wq →
    wq.cell? ⟨w.heap.size, 0, none⟩ = some (.int .u32 ver) ∧ wq.cell? ⟨w.heap.size, 1, none⟩ = some i ∧ wq.cell? ⟨w.heap.size, 2, none⟩ = some o ∧ wq.cell? ⟨w.heap.size, 3, none⟩ = some (.int .u32 lock) := fun wq hq =>
  ⟨hq.cell (cell_new (w := w) rfl rfl), hq.cell (cell_new (w := w) rfl rfl), hq.cell (cell_new (w := w) rfl rfl), hq.cell (cell_new (w := w) rfl rfl)⟩
set_option maxHeartbeats 4000000 in
theorem rbare_ok (t : TTx) (i o : Value) (w : World) (h : TxOk w w.heap.size t i o) (hc : chk t = 0) :
    Calls Tryd.prog 11 #[txV t i o] w (GavePost (layB t false) w) := by
  have h' := h
  obtain ⟨⟨A1, c1, rfl, _, _, _⟩, ⟨A2, c2, rfl, _, _, _⟩, _, _⟩ := h
  obtain ⟨n1, hn1⟩ : ∃ n, n = t.ins.length := ⟨_, rfl⟩
  obtain ⟨n2, hn2⟩ : ∃ n, n = t.outs.length := ⟨_, rfl⟩
  obtain ⟨ver, hv⟩ : ∃ n, n = t.ver := ⟨_, rfl⟩
  obtain ⟨lock, hlk⟩ : ∃ n, n = t.lock := ⟨_, rfl⟩
  have K13 : Hid (∀ wq, Below w.heap.size w wq → Calls Tryd.prog 13 #[.agg #[.int .u32 (ver : Int), .slice A1 n1 c1, .slice A2 n2 c2, .int .u32 (lock : Int)]] wq (IntPost 0 wq)) := fun wq hq => by
    have := rcheck_any t _ _ wq ((h'.keep hq (Nat.le_refl _)).up hq.size)
    rw [hc] at this
    unfold txV at this
    rw [← hv, ← hlk, ← hn1, ← hn2] at this
    exact this
  obtain ⟨X, hX⟩ : ∃ X, X = layB t false := ⟨_, rfl⟩
  have K29 : Hid (∀ wq, Below w.heap.size w wq → Calls Tryd.prog 29 #[.agg #[.int .u32 (ver : Int), .slice A1 n1 c1, .slice A2 n2 c2, .int .u32 (lock : Int)], .bool false] wq (LaidPost X wq)) := fun wq hq => by
    have := rlay_any t _ _ false wq ((h'.keep hq (Nat.le_refl _)).up hq.size) hc
    unfold txV at this
    rw [← hv, ← hlk, ← hn1, ← hn2, ← hX] at this
    exact this
  have HB : Hid (Below w.heap.size w (w.alloc (.cells #[.int .u32 (ver : Int), .slice A1 n1 c1, .slice A2 n2 c2, .int .u32 (lock : Int)] 26))) := (Below.refl _ _).alloc (Nat.le_refl _) _
  have HT := Lib.hid (tx_box (ver : Int) (lock : Int) (.slice A1 n1 c1) (.slice A2 n2 c2) w 26)
  unfold txV
  rw [← hv, ← hlk, ← hn1, ← hn2, ← hX]
  clear h' hc hn1 hn2 hv hlk hX
  go_enter Tryd.func11, Tryd.ntmps11
  go_wp2_with (first
    | (go_at_call 13; (with_reducible refine (K13.out _ HB.out).mono ?_); rintro e w2 ⟨rfl, hb2⟩; have HB2 : Hid (Below w.heap.size w w2) := HB.out.trans (hb2.mono HB.out.size); obtain ⟨d0, d1, d2, d3⟩ := HT.out w2 hb2; clear hb2; dsimp only)
    | (go_at_call 29; (with_reducible refine (K29.out _ HB2.out).mono ?_); rintro e w3 ⟨v3, rfl, ho3, hb3⟩; obtain ⟨A3, c3, rfl, _, _⟩ := slice_form ho3; have HB3 : Hid (Below w.heap.size w w3) := HB2.out.trans (hb3.mono HB2.out.size); have HO3 := Lib.hid (ho3.base HB2.out.size); clear hb3 ho3; dsimp only))
  go_ret2
  exact ⟨A3, c3, rfl, HO3.out, HB3.out⟩
set_option maxHeartbeats 4000000 in
theorem rbare_no (t : TTx) (i o : Value) (w : World) (h : TxOk w w.heap.size t i o) (hc : chk t ≠ 0) :
    Calls Tryd.prog 11 #[txV t i o] w (NonePost (chk t) w) := by
  have h' := h
  obtain ⟨⟨A1, c1, rfl, _, _, _⟩, ⟨A2, c2, rfl, _, _, _⟩, _, _⟩ := h
  obtain ⟨n1, hn1⟩ : ∃ n, n = t.ins.length := ⟨_, rfl⟩
  obtain ⟨n2, hn2⟩ : ∃ n, n = t.outs.length := ⟨_, rfl⟩
  obtain ⟨ver, hv⟩ : ∃ n, n = t.ver := ⟨_, rfl⟩
  obtain ⟨lock, hlk⟩ : ∃ n, n = t.lock := ⟨_, rfl⟩
  obtain ⟨c, hcc⟩ : ∃ c, c = chk t := ⟨_, rfl⟩
  have K13 : Hid (∀ wq, Below w.heap.size w wq → Calls Tryd.prog 13 #[.agg #[.int .u32 (ver : Int), .slice A1 n1 c1, .slice A2 n2 c2, .int .u32 (lock : Int)]] wq (IntPost c wq)) := fun wq hq => by
    have := rcheck_any t _ _ wq ((h'.keep hq (Nat.le_refl _)).up hq.size)
    rw [← hcc] at this
    unfold txV at this
    rw [← hv, ← hlk, ← hn1, ← hn2] at this
    exact this
  have HB : Hid (Below w.heap.size w (w.alloc (.cells #[.int .u32 (ver : Int), .slice A1 n1 c1, .slice A2 n2 c2, .int .u32 (lock : Int)] 26))) := (Below.refl _ _).alloc (Nat.le_refl _) _
  have hne : (c != 0) = true := by rw [hcc]; simpa using hc
  unfold txV
  rw [← hv, ← hlk, ← hn1, ← hn2, ← hcc]
  clear h' hc hn1 hn2 hv hlk hcc
  go_enter Tryd.func11, Tryd.ntmps11
  go_wp2_with (go_at_call 13; (with_reducible refine (K13.out _ HB.out).mono ?_); rintro e w2 ⟨rfl, hb2⟩; dsimp only)
  go_ret2
  exact ⟨rfl, HB.out.trans (hb2.mono HB.out.size)⟩
set_option maxHeartbeats 4000000 in
theorem rput_no5 (t : TTx) (i o : Value) (w : World) (h : TxOk w w.heap.size t i o) (hc : chk t ≠ 0) :
    Calls Tryd.prog 9 #[txV t i o] w (NonePost (chk t) w) := by
  have h' := h
  obtain ⟨⟨A1, c1, rfl, _, _, _⟩, ⟨A2, c2, rfl, _, _, _⟩, _, _⟩ := h
  obtain ⟨n1, hn1⟩ : ∃ n, n = t.ins.length := ⟨_, rfl⟩
  obtain ⟨n2, hn2⟩ : ∃ n, n = t.outs.length := ⟨_, rfl⟩
  obtain ⟨ver, hv⟩ : ∃ n, n = t.ver := ⟨_, rfl⟩
  obtain ⟨lock, hlk⟩ : ∃ n, n = t.lock := ⟨_, rfl⟩
  obtain ⟨c, hcc⟩ : ∃ c, c = chk t := ⟨_, rfl⟩
  have K13 : Hid (∀ wq, Below w.heap.size w wq → Calls Tryd.prog 13 #[.agg #[.int .u32 (ver : Int), .slice A1 n1 c1, .slice A2 n2 c2, .int .u32 (lock : Int)]] wq (IntPost c wq)) := fun wq hq => by
    have := rcheck_any t _ _ wq ((h'.keep hq (Nat.le_refl _)).up hq.size)
    rw [← hcc] at this
    unfold txV at this
    rw [← hv, ← hlk, ← hn1, ← hn2] at this
    exact this
  have HB : Hid (Below w.heap.size w (w.alloc (.cells #[.int .u32 (ver : Int), .slice A1 n1 c1, .slice A2 n2 c2, .int .u32 (lock : Int)] 26))) := (Below.refl _ _).alloc (Nat.le_refl _) _
  have hne : (c != 0) = true := by rw [hcc]; simpa using hc
  unfold txV
  rw [← hv, ← hlk, ← hn1, ← hn2, ← hcc]
  clear h' hc hn1 hn2 hv hlk hcc
  go_enter Tryd.func9, Tryd.ntmps9
  go_wp2_with (go_at_call 13; (with_reducible refine (K13.out _ HB.out).mono ?_); rintro e w2 ⟨rfl, hb2⟩; dsimp only)
  go_ret2
  exact ⟨rfl, HB.out.trans (hb2.mono HB.out.size)⟩

open Go.RowKit
set_option linter.unusedVariables false
set_option linter.unusedSimpArgs false
set_option maxRecDepth 100000
theorem zero38 : ∀ w, (zeroValue 38).run Tryd.prog w = .ok (.agg (vbs Z32).toArray) w := fun _ => by kernel_rfl
theorem wpList_zero38 {ops : Array Oper} {rest : List Oper} {o : Oper} {a : Act} {w : World} {Q : Exit → Act → World → Prop} (hg : o.guard = none) (ho : o.op = .build 38 #[])
    (h : wpList Tryd.prog ops Q rest (a.put o.dst (.agg (vbs Z32).toArray)) w) : wpList Tryd.prog ops Q (o :: rest) a w :=
  wpList_build hg 38 _ ho (by kernel_rfl) (by
    rw [show (Tryd.prog.built 38 ((#[] : Array (Nat × Operand)).map fun (i, x) => (i, a.eval x)).toList).getD #[] = (vbs Z32).toArray by kernel_rfl]
    exact h)
theorem hash_box (w : World) {D : List (BitVec 8)} (h : D.length = 32) : Blk ((w.alloc (.cells (vbs Z32).toArray 38)).setCells w.heap.size 0 (vbs D)) w.heap.size 38 (vbs D) := Blk.laid w h
/-- A hash is told. -/
def HashP (D : List (BitVec 8)) (w : World) (e : Ending) (w' : World) : Prop := e = .returned (.agg (vbs D).toArray) ∧ Below w.heap.size w w'
theorem name_ok (A : Option Addr) (X : List (BitVec 8)) (n c : Nat) (w : World) (hn : X.length = n) (hG : Glob w) (hR : Rd w w.heap.size A X) (hc : n ≤ c) (hl : n ≤ 1000000) : Calls Tryd.prog 37 #[.slice A n c, .int .i64 0] w (HashP (twiceB X) w) := by
  have hz := zero38
  have hT0 := Blk.new w 38 (vbs Z32).toArray
  rw [List.toList_toArray] at hT0
  have hB0 : Below w.heap.size w (w.alloc (.cells (vbs Z32).toArray 38)) := (Below.refl _ _).alloc (Nat.le_refl _) _
  obtain ⟨D, hD⟩ : ∃ D, D = twiceB X := ⟨_, rfl⟩
  have HDl := Lib.hid (show D.length = 32 by rw [hD]; exact sumB_len _)
  have KT := twice_any A c X (w.alloc (.cells (vbs Z32).toArray 38)) (hG.below hB0) ((hR.keep hB0).up hB0.size) (by omega) (by omega)
  rw [hn, ← hD] at KT
  have HK := Lib.hid KT
  have HT := Lib.hid hT0
  have HB := Lib.hid hB0
  rw [← hD]
  clear hT0 hB0 hG hR hD hc hl hn KT
  go_enter Tryd.func37, Tryd.ntmps37
  go_wp2_with (first
    | (go_at_call 56; (with_reducible refine HK.out.mono ?_); rintro e w3 ⟨rfl, hb3⟩; have HB3 := Lib.hid hb3; have HT3 := Lib.hid (HT.out.below hb3 HT.out.lt); clear hb3; dsimp only)
    | (with_reducible refine wpList_store_mid rfl 38 (.tmp 4) (.tmp 9) rfl w.heap.size 0 (vbs D).toArray rfl rfl (there_z HT3.out HDl.out) (i25v HDl.out) (all_oneCell_toArray (vbs_one _)) ?_))
  have hS := HT3.out.setCells (vbs D) (by rw [vbs_len, vbs_len, HDl.out]; rfl)
  have hbb := below_setCells (B := w.heap.size) (b := w.heap.size) (Nat.le_refl _) (vbs D) 0 w3 (HB.out.trans (HB3.out.mono HB.out.size))
  generalize w3.setCells w.heap.size 0 (vbs D) = W9 at hS hbb
  exact bodyPost_ret (v := .agg (vbs D).toArray) (results_cell_row Tryd.results37 _ W9 w.heap.size 38 (vbs D).toArray (0, 0) _ rfl hS Tryd.underlying38 rfl (i25v HDl.out)) rfl ⟨rfl, hbb⟩
theorem name_no (v : Value) (c : Int) (w : World) (hc : c ≠ 0) : Calls Tryd.prog 37 #[v, .int .i64 c] w (HashP Z32 w) := by
  have hz := zero38
  have hT0 := Blk.new w 38 (vbs Z32).toArray
  rw [List.toList_toArray] at hT0
  have HT := Lib.hid hT0
  have HB : Hid (Below w.heap.size w (w.alloc (.cells (vbs Z32).toArray 38))) := (Below.refl _ _).alloc (Nat.le_refl _) _
  have HZl : Hid (Z32.length = 32) := (rfl : Z32.length = 32)
  have hne : (c != 0) = true := by simpa using hc
  clear hT0 hc
  go_enter Tryd.func37, Tryd.ntmps37
  go_wp2_with (first
    | (refine wpList_zero38 rfl rfl ?_)
    | (with_reducible refine wpList_store_mid rfl 38 (.tmp 4) (.tmp 7) rfl w.heap.size 0 (vbs Z32).toArray rfl rfl (there_z HT.out HZl.out) (i25v HZl.out) (all_oneCell_toArray (vbs_one _)) ?_))
  have hS := HT.out.setCells (vbs Z32) rfl
  have hbb := below_setCells (B := w.heap.size) (b := w.heap.size) (Nat.le_refl _) (vbs Z32) 0 _ HB.out
  generalize (w.alloc (.cells (vbs Z32).toArray 38)).setCells w.heap.size 0 (vbs Z32) = W9 at hS hbb
  exact bodyPost_ret (v := .agg (vbs Z32).toArray) (results_cell_row Tryd.results37 _ W9 w.heap.size 38 (vbs Z32).toArray (0, 0) _ rfl hS Tryd.underlying38 rfl (i25v HZl.out)) rfl ⟨rfl, hbb⟩
set_option maxHeartbeats 4000000 in
theorem bare_ok (t : TTx) (i o b : Value) (L : List (BitVec 8)) (w : World) (h : TxOk w w.heap.size t i o) (hL : Sl w w.heap.size b L) (hl : L.length ≤ 100000) (hc : chk t = 0) :
    Calls Tryd.prog 10 #[b, txV t i o] w (GavePost (L ++ layB t false) w) := by
  have h' := h
  obtain ⟨⟨A1, c1, rfl, _, _, _⟩, ⟨A2, c2, rfl, _, _, _⟩, _, _⟩ := h
  obtain ⟨n1, hn1⟩ : ∃ n, n = t.ins.length := ⟨_, rfl⟩
  obtain ⟨n2, hn2⟩ : ∃ n, n = t.outs.length := ⟨_, rfl⟩
  obtain ⟨ver, hv⟩ : ∃ n, n = t.ver := ⟨_, rfl⟩
  obtain ⟨lock, hlk⟩ : ∃ n, n = t.lock := ⟨_, rfl⟩
  obtain ⟨X, hX⟩ : ∃ X, X = L ++ layB t false := ⟨_, rfl⟩
  have K28 : Hid (∀ wq, Below w.heap.size w wq → Calls Tryd.prog 28 #[b, .agg #[.int .u32 (ver : Int), .slice A1 n1 c1, .slice A2 n2 c2, .int .u32 (lock : Int)], .bool false] wq (GavePost X wq)) := fun wq hq => by
    have := put_ok t _ _ b L false wq ((h'.keep hq (Nat.le_refl _)).up hq.size) ((hL.keep hq (Nat.le_refl _)).up hq.size) hl hc
    unfold txV at this
    rw [← hv, ← hlk, ← hn1, ← hn2, ← hX] at this
    exact this
  have HB : Hid (Below w.heap.size w (w.alloc (.cells #[.int .u32 (ver : Int), .slice A1 n1 c1, .slice A2 n2 c2, .int .u32 (lock : Int)] 26))) := (Below.refl _ _).alloc (Nat.le_refl _) _
  obtain ⟨d0, d1, d2, d3⟩ := tx_box (ver : Int) (lock : Int) (.slice A1 n1 c1) (.slice A2 n2 c2) w 26 _ (SB.refl _)
  unfold txV
  rw [← hv, ← hlk, ← hn1, ← hn2, ← hX]
  clear h' hc hn1 hn2 hv hlk hX hL hl
  go_enter Tryd.func10, Tryd.ntmps10
  go_wp2_with (go_at_call 28; (with_reducible refine (K28.out _ HB.out).mono ?_); rintro e w4 ⟨A4, c4, rfl, ho4, hb4⟩; have HB4 : Hid (Below w.heap.size w w4) := HB.out.trans (hb4.mono HB.out.size); have HO4 := Lib.hid (ho4.base HB.out.size); clear ho4 hb4; dsimp only)
  go_ret2
  exact ⟨A4, c4, rfl, HO4.out, HB4.out⟩
set_option maxHeartbeats 4000000 in
theorem bare_no (t : TTx) (i o b : Value) (w : World) (h : TxOk w w.heap.size t i o) (hc : chk t ≠ 0) :
    Calls Tryd.prog 10 #[b, txV t i o] w (NonePost (chk t) w) := by
  have h' := h
  obtain ⟨⟨A1, c1, rfl, _, _, _⟩, ⟨A2, c2, rfl, _, _, _⟩, _, _⟩ := h
  obtain ⟨n1, hn1⟩ : ∃ n, n = t.ins.length := ⟨_, rfl⟩
  obtain ⟨n2, hn2⟩ : ∃ n, n = t.outs.length := ⟨_, rfl⟩
  obtain ⟨ver, hv⟩ : ∃ n, n = t.ver := ⟨_, rfl⟩
  obtain ⟨lock, hlk⟩ : ∃ n, n = t.lock := ⟨_, rfl⟩
  obtain ⟨c, hcc⟩ : ∃ c, c = chk t := ⟨_, rfl⟩
  have K28 : Hid (∀ wq, Below w.heap.size w wq → Calls Tryd.prog 28 #[b, .agg #[.int .u32 (ver : Int), .slice A1 n1 c1, .slice A2 n2 c2, .int .u32 (lock : Int)], .bool false] wq (NonePost c wq)) := fun wq hq => by
    have := put_no t _ _ b false wq ((h'.keep hq (Nat.le_refl _)).up hq.size) hc
    unfold txV at this
    rw [← hv, ← hlk, ← hn1, ← hn2, ← hcc] at this
    exact this
  have HB : Hid (Below w.heap.size w (w.alloc (.cells #[.int .u32 (ver : Int), .slice A1 n1 c1, .slice A2 n2 c2, .int .u32 (lock : Int)] 26))) := (Below.refl _ _).alloc (Nat.le_refl _) _
  obtain ⟨d0, d1, d2, d3⟩ := tx_box (ver : Int) (lock : Int) (.slice A1 n1 c1) (.slice A2 n2 c2) w 26 _ (SB.refl _)
  unfold txV
  rw [← hv, ← hlk, ← hn1, ← hn2, ← hcc]
  clear h' hc hn1 hn2 hv hlk hcc
  go_enter Tryd.func10, Tryd.ntmps10
  go_wp2_with (go_at_call 28; (with_reducible refine (K28.out _ HB.out).mono ?_); rintro e w4 ⟨rfl, hb4⟩; have HB4 : Hid (Below w.heap.size w w4) := HB.out.trans (hb4.mono HB.out.size); clear hb4; dsimp only)
  go_ret2
  exact ⟨rfl, HB4.out⟩
set_option maxHeartbeats 4000000 in
theorem id5_ok (t : TTx) (i o : Value) (w : World) (h : TxOk w w.heap.size t i o) (hc : chk t = 0) (hG : Glob w) :
    Calls Tryd.prog 16 #[txV t i o] w (HashP (twiceB (layB t false)) w) := by
  have h' := h
  obtain ⟨⟨A1, c1, rfl, _, _, _⟩, ⟨A2, c2, rfl, _, _, _⟩, _, _⟩ := h
  obtain ⟨n1, hn1⟩ : ∃ n, n = t.ins.length := ⟨_, rfl⟩
  obtain ⟨n2, hn2⟩ : ∃ n, n = t.outs.length := ⟨_, rfl⟩
  obtain ⟨ver, hv⟩ : ∃ n, n = t.ver := ⟨_, rfl⟩
  obtain ⟨lock, hlk⟩ : ∃ n, n = t.lock := ⟨_, rfl⟩
  have hz := zero38
  have es : (w.alloc (.cells #[.int .u32 (ver : Int), .slice A1 n1 c1, .slice A2 n2 c2, .int .u32 (lock : Int)] 26)).heap.size = w.heap.size + 1 := by simp
  have hT0 := Blk.new (w.alloc (.cells #[.int .u32 (ver : Int), .slice A1 n1 c1, .slice A2 n2 c2, .int .u32 (lock : Int)] 26)) 38 (vbs Z32).toArray
  rw [es, List.toList_toArray] at hT0
  have hB0 : Below w.heap.size w ((w.alloc (.cells #[.int .u32 (ver : Int), .slice A1 n1 c1, .slice A2 n2 c2, .int .u32 (lock : Int)] 26)).alloc (.cells (vbs Z32).toArray 38)) := ((Below.refl _ _).alloc (Nat.le_refl _) _).alloc (by simp) _
  obtain ⟨d0, d1, d2, d3⟩ := tx_box (ver : Int) (lock : Int) (.slice A1 n1 c1) (.slice A2 n2 c2) w 26 ((w.alloc (.cells #[.int .u32 (ver : Int), .slice A1 n1 c1, .slice A2 n2 c2, .int .u32 (lock : Int)] 26)).alloc (.cells (vbs Z32).toArray 38)) ((Below.refl _ _).alloc (Nat.le_refl _) _)
  obtain ⟨X, hX⟩ : ∃ X, X = layB t false := ⟨_, rfl⟩
  have hXl : X.length ≤ 100000 := by rw [hX]; exact lay_len _ h' hc
  have KP : Hid (∀ wq, Below w.heap.size w wq → Calls Tryd.prog 10 #[.slice none 0 0, .agg #[.int .u32 (ver : Int), .slice A1 n1 c1, .slice A2 n2 c2, .int .u32 (lock : Int)]] wq (GavePost X wq)) := fun wq hq => by
    have := bare_ok t _ _ (.slice none 0 0) [] wq ((h'.keep hq (Nat.le_refl _)).up hq.size) (Sl.nil _ _) (by simp) hc
    rw [List.nil_append] at this
    unfold txV at this
    rw [← hv, ← hlk, ← hn1, ← hn2, ← hX] at this
    exact this
  obtain ⟨D, hD⟩ : ∃ D, D = twiceB X := ⟨_, rfl⟩
  rw [← hX, ← hD]
  have HDl := Lib.hid (show D.length = 32 by rw [hD]; exact sumB_len _)
  have KN : Hid (∀ (A : Option Addr) (n c : Nat) (wq : World), X.length = n → Glob wq → Rd wq wq.heap.size A X → n ≤ c → Calls Tryd.prog 37 #[.slice A n c, .int .i64 0] wq (HashP D wq)) := fun A n c wq e g r l => by
    rw [hD]; exact name_ok A X n c wq e g r l (by omega)
  have HT := Lib.hid hT0
  have HB := Lib.hid hB0
  have HG := Lib.hid hG
  have es' := Lib.hid es
  unfold txV
  rw [← hv, ← hlk, ← hn1, ← hn2]
  clear h' hc hn1 hn2 hv hlk hT0 hB0 hG es hD hX hXl
  go_enter Tryd.func16, Tryd.ntmps16
  go_upto_region 1 with fail
  generalize (w.alloc (.cells #[.int .u32 (ver : Int), .slice A1 n1 c1, .slice A2 n2 c2, .int .u32 (lock : Int)] 26)).alloc (.cells (vbs Z32).toArray 38) = W1 at HT HB d0 d1 d2 d3 ⊢
  clear hz
  go_wp2_with (first
    | (go_at_call 10; (with_reducible refine (KP.out _ HB.out).mono ?_); rintro e w2 ⟨A4, c4, rfl, ho2, hb2⟩; obtain ⟨A5, c5, e5, hr5, hc5, _, _⟩ := ho2.rd; injection e5 with e6 e7 e8; subst e6 e8; have HR5 := Lib.hid hr5; have HC5 := Lib.hid hc5; have HB2 := Lib.hid hb2; clear ho2 hb2 hr5 hc5; dsimp only)
    | (go_at_call 37; (with_reducible refine (KN.out _ _ _ _ rfl (HG.out.below (HB.out.trans (HB2.out.mono HB.out.size))) HR5.out HC5.out).mono ?_); rintro e w3 ⟨rfl, hb3⟩; have HB3 := Lib.hid hb3; have HT3 := Lib.hid ((HT.out.below HB2.out HT.out.lt).below hb3 (HT.out.below HB2.out HT.out.lt).lt); clear hb3; dsimp only)
    | (with_reducible refine wpList_store_mid rfl 38 (.tmp 2) (.tmp 7) rfl (w.heap.size + 1) 0 (vbs D).toArray rfl rfl (there_z HT3.out HDl.out) (i25v HDl.out) (all_oneCell_toArray (vbs_one _)) ?_))
  have hS := HT3.out.setCells (vbs D) (by rw [vbs_len, vbs_len, HDl.out]; rfl)
  have hbb := below_setCells (B := w.heap.size) (b := w.heap.size + 1) (by omega) (vbs D) 0 w3 (HB.out.trans ((HB2.out.mono HB.out.size).trans (HB3.out.mono (Nat.le_trans HB.out.size HB2.out.size))))
  generalize w3.setCells (w.heap.size + 1) 0 (vbs D) = W9 at hS hbb
  exact bodyPost_ret (v := .agg (vbs D).toArray) (results_cell_row Tryd.results16 _ W9 (w.heap.size + 1) 38 (vbs D).toArray (0, 0) _ rfl hS Tryd.underlying38 rfl (i25v HDl.out)) rfl ⟨rfl, hbb⟩
set_option maxHeartbeats 4000000 in
theorem id5_no (t : TTx) (i o : Value) (w : World) (h : TxOk w w.heap.size t i o) (hc : chk t ≠ 0) (hG : Glob w) :
    Calls Tryd.prog 16 #[txV t i o] w (HashP Z32 w) := by
  have h' := h
  obtain ⟨⟨A1, c1, rfl, _, _, _⟩, ⟨A2, c2, rfl, _, _, _⟩, _, _⟩ := h
  obtain ⟨n1, hn1⟩ : ∃ n, n = t.ins.length := ⟨_, rfl⟩
  obtain ⟨n2, hn2⟩ : ∃ n, n = t.outs.length := ⟨_, rfl⟩
  obtain ⟨ver, hv⟩ : ∃ n, n = t.ver := ⟨_, rfl⟩
  obtain ⟨lock, hlk⟩ : ∃ n, n = t.lock := ⟨_, rfl⟩
  have hz := zero38
  have es : (w.alloc (.cells #[.int .u32 (ver : Int), .slice A1 n1 c1, .slice A2 n2 c2, .int .u32 (lock : Int)] 26)).heap.size = w.heap.size + 1 := by simp
  have hT0 := Blk.new (w.alloc (.cells #[.int .u32 (ver : Int), .slice A1 n1 c1, .slice A2 n2 c2, .int .u32 (lock : Int)] 26)) 38 (vbs Z32).toArray
  rw [es, List.toList_toArray] at hT0
  have hB0 : Below w.heap.size w ((w.alloc (.cells #[.int .u32 (ver : Int), .slice A1 n1 c1, .slice A2 n2 c2, .int .u32 (lock : Int)] 26)).alloc (.cells (vbs Z32).toArray 38)) := ((Below.refl _ _).alloc (Nat.le_refl _) _).alloc (by simp) _
  obtain ⟨d0, d1, d2, d3⟩ := tx_box (ver : Int) (lock : Int) (.slice A1 n1 c1) (.slice A2 n2 c2) w 26 ((w.alloc (.cells #[.int .u32 (ver : Int), .slice A1 n1 c1, .slice A2 n2 c2, .int .u32 (lock : Int)] 26)).alloc (.cells (vbs Z32).toArray 38)) ((Below.refl _ _).alloc (Nat.le_refl _) _)
  obtain ⟨c, hcc⟩ : ∃ c, c = chk t := ⟨_, rfl⟩
  have KP : Hid (∀ wq, Below w.heap.size w wq → Calls Tryd.prog 10 #[.slice none 0 0, .agg #[.int .u32 (ver : Int), .slice A1 n1 c1, .slice A2 n2 c2, .int .u32 (lock : Int)]] wq (NonePost c wq)) := fun wq hq => by
    have := bare_no t _ _ (.slice none 0 0) wq ((h'.keep hq (Nat.le_refl _)).up hq.size) hc
    unfold txV at this
    rw [← hv, ← hlk, ← hn1, ← hn2, ← hcc] at this
    exact this
  obtain ⟨D, hD⟩ : ∃ D, D = Z32 := ⟨_, rfl⟩
  rw [← hD]
  have HDl := Lib.hid (show D.length = 32 by rw [hD]; rfl)
  have KN : Hid (∀ (wq : World), Calls Tryd.prog 37 #[.slice none 0 0, .int .i64 c] wq (HashP D wq)) := fun wq => by
    rw [hD]; exact name_no _ c wq (by rw [hcc]; exact hc)
  have HT := Lib.hid hT0
  have HB := Lib.hid hB0
  have HG := Lib.hid hG
  have es' := Lib.hid es
  unfold txV
  rw [← hv, ← hlk, ← hn1, ← hn2]
  clear h' hc hn1 hn2 hv hlk hT0 hB0 hG es hD hcc
  go_enter Tryd.func16, Tryd.ntmps16
  go_upto_region 1 with fail
  generalize (w.alloc (.cells #[.int .u32 (ver : Int), .slice A1 n1 c1, .slice A2 n2 c2, .int .u32 (lock : Int)] 26)).alloc (.cells (vbs Z32).toArray 38) = W1 at HT HB d0 d1 d2 d3 ⊢
  clear hz
  go_wp2_with (first
    | (go_at_call 10; (with_reducible refine (KP.out _ HB.out).mono ?_); rintro e w2 ⟨rfl, hb2⟩; have HB2 := Lib.hid hb2; clear hb2; dsimp only)
    | (go_at_call 37; (with_reducible refine (KN.out _).mono ?_); rintro e w3 ⟨rfl, hb3⟩; have HB3 := Lib.hid hb3; have HT3 := Lib.hid ((HT.out.below HB2.out HT.out.lt).below hb3 (HT.out.below HB2.out HT.out.lt).lt); clear hb3; dsimp only)
    | (with_reducible refine wpList_store_mid rfl 38 (.tmp 2) (.tmp 7) rfl (w.heap.size + 1) 0 (vbs D).toArray rfl rfl (there_z HT3.out HDl.out) (i25v HDl.out) (all_oneCell_toArray (vbs_one _)) ?_))
  have hS := HT3.out.setCells (vbs D) (by rw [vbs_len, vbs_len, HDl.out]; rfl)
  have hbb := below_setCells (B := w.heap.size) (b := w.heap.size + 1) (by omega) (vbs D) 0 w3 (HB.out.trans ((HB2.out.mono HB.out.size).trans (HB3.out.mono (Nat.le_trans HB.out.size HB2.out.size))))
  generalize w3.setCells (w.heap.size + 1) 0 (vbs D) = W9 at hS hbb
  exact bodyPost_ret (v := .agg (vbs D).toArray) (results_cell_row Tryd.results16 _ W9 (w.heap.size + 1) 38 (vbs D).toArray (0, 0) _ rfl hS Tryd.underlying38 rfl (i25v HDl.out)) rfl ⟨rfl, hbb⟩
set_option maxHeartbeats 4000000 in
theorem full5_ok (t : TTx) (i o : Value) (w : World) (h : TxOk w w.heap.size t i o) (hc : chk t = 0) (hG : Glob w) :
    Calls Tryd.prog 18 #[txV t i o] w (HashP (twiceB (layB t (witd t))) w) := by
  have h' := h
  obtain ⟨⟨A1, c1, rfl, _, _, _⟩, ⟨A2, c2, rfl, _, _, _⟩, _, _⟩ := h
  obtain ⟨n1, hn1⟩ : ∃ n, n = t.ins.length := ⟨_, rfl⟩
  obtain ⟨n2, hn2⟩ : ∃ n, n = t.outs.length := ⟨_, rfl⟩
  obtain ⟨ver, hv⟩ : ∃ n, n = t.ver := ⟨_, rfl⟩
  obtain ⟨lock, hlk⟩ : ∃ n, n = t.lock := ⟨_, rfl⟩
  have hz := zero38
  have es : (w.alloc (.cells #[.int .u32 (ver : Int), .slice A1 n1 c1, .slice A2 n2 c2, .int .u32 (lock : Int)] 26)).heap.size = w.heap.size + 1 := by simp
  have hT0 := Blk.new (w.alloc (.cells #[.int .u32 (ver : Int), .slice A1 n1 c1, .slice A2 n2 c2, .int .u32 (lock : Int)] 26)) 38 (vbs Z32).toArray
  rw [es, List.toList_toArray] at hT0
  have hB0 : Below w.heap.size w ((w.alloc (.cells #[.int .u32 (ver : Int), .slice A1 n1 c1, .slice A2 n2 c2, .int .u32 (lock : Int)] 26)).alloc (.cells (vbs Z32).toArray 38)) := ((Below.refl _ _).alloc (Nat.le_refl _) _).alloc (by simp) _
  obtain ⟨d0, d1, d2, d3⟩ := tx_box (ver : Int) (lock : Int) (.slice A1 n1 c1) (.slice A2 n2 c2) w 26 ((w.alloc (.cells #[.int .u32 (ver : Int), .slice A1 n1 c1, .slice A2 n2 c2, .int .u32 (lock : Int)] 26)).alloc (.cells (vbs Z32).toArray 38)) ((Below.refl _ _).alloc (Nat.le_refl _) _)
  obtain ⟨X, hX⟩ : ∃ X, X = layB t (witd t) := ⟨_, rfl⟩
  have hXl : X.length ≤ 100000 := by rw [hX]; exact lay_len _ h' hc
  have KP : Hid (∀ wq, Below w.heap.size w wq → Calls Tryd.prog 8 #[.slice none 0 0, .agg #[.int .u32 (ver : Int), .slice A1 n1 c1, .slice A2 n2 c2, .int .u32 (lock : Int)]] wq (GavePost X wq)) := fun wq hq => by
    have := Put_ok t _ _ (.slice none 0 0) [] wq ((h'.keep hq (Nat.le_refl _)).up hq.size) (Sl.nil _ _) (by simp) hc
    rw [List.nil_append] at this
    unfold txV at this
    rw [← hv, ← hlk, ← hn1, ← hn2, ← hX] at this
    exact this
  obtain ⟨D, hD⟩ : ∃ D, D = twiceB X := ⟨_, rfl⟩
  rw [← hX, ← hD]
  have HDl := Lib.hid (show D.length = 32 by rw [hD]; exact sumB_len _)
  have KN : Hid (∀ (A : Option Addr) (n c : Nat) (wq : World), X.length = n → Glob wq → Rd wq wq.heap.size A X → n ≤ c → Calls Tryd.prog 37 #[.slice A n c, .int .i64 0] wq (HashP D wq)) := fun A n c wq e g r l => by
    rw [hD]; exact name_ok A X n c wq e g r l (by omega)
  have HT := Lib.hid hT0
  have HB := Lib.hid hB0
  have HG := Lib.hid hG
  have es' := Lib.hid es
  unfold txV
  rw [← hv, ← hlk, ← hn1, ← hn2]
  clear h' hc hn1 hn2 hv hlk hT0 hB0 hG es hD hX hXl
  go_enter Tryd.func18, Tryd.ntmps18
  go_upto_region 1 with fail
  generalize (w.alloc (.cells #[.int .u32 (ver : Int), .slice A1 n1 c1, .slice A2 n2 c2, .int .u32 (lock : Int)] 26)).alloc (.cells (vbs Z32).toArray 38) = W1 at HT HB d0 d1 d2 d3 ⊢
  clear hz
  go_wp2_with (first
    | (go_at_call 8; (with_reducible refine (KP.out _ HB.out).mono ?_); rintro e w2 ⟨A4, c4, rfl, ho2, hb2⟩; obtain ⟨A5, c5, e5, hr5, hc5, _, _⟩ := ho2.rd; injection e5 with e6 e7 e8; subst e6 e8; have HR5 := Lib.hid hr5; have HC5 := Lib.hid hc5; have HB2 := Lib.hid hb2; clear ho2 hb2 hr5 hc5; dsimp only)
    | (go_at_call 37; (with_reducible refine (KN.out _ _ _ _ rfl (HG.out.below (HB.out.trans (HB2.out.mono HB.out.size))) HR5.out HC5.out).mono ?_); rintro e w3 ⟨rfl, hb3⟩; have HB3 := Lib.hid hb3; have HT3 := Lib.hid ((HT.out.below HB2.out HT.out.lt).below hb3 (HT.out.below HB2.out HT.out.lt).lt); clear hb3; dsimp only)
    | (with_reducible refine wpList_store_mid rfl 38 (.tmp 2) (.tmp 7) rfl (w.heap.size + 1) 0 (vbs D).toArray rfl rfl (there_z HT3.out HDl.out) (i25v HDl.out) (all_oneCell_toArray (vbs_one _)) ?_))
  have hS := HT3.out.setCells (vbs D) (by rw [vbs_len, vbs_len, HDl.out]; rfl)
  have hbb := below_setCells (B := w.heap.size) (b := w.heap.size + 1) (by omega) (vbs D) 0 w3 (HB.out.trans ((HB2.out.mono HB.out.size).trans (HB3.out.mono (Nat.le_trans HB.out.size HB2.out.size))))
  generalize w3.setCells (w.heap.size + 1) 0 (vbs D) = W9 at hS hbb
  exact bodyPost_ret (v := .agg (vbs D).toArray) (results_cell_row Tryd.results18 _ W9 (w.heap.size + 1) 38 (vbs D).toArray (0, 0) _ rfl hS Tryd.underlying38 rfl (i25v HDl.out)) rfl ⟨rfl, hbb⟩
set_option maxHeartbeats 4000000 in
theorem full5_no (t : TTx) (i o : Value) (w : World) (h : TxOk w w.heap.size t i o) (hc : chk t ≠ 0) (hG : Glob w) :
    Calls Tryd.prog 18 #[txV t i o] w (HashP Z32 w) := by
  have h' := h
  obtain ⟨⟨A1, c1, rfl, _, _, _⟩, ⟨A2, c2, rfl, _, _, _⟩, _, _⟩ := h
  obtain ⟨n1, hn1⟩ : ∃ n, n = t.ins.length := ⟨_, rfl⟩
  obtain ⟨n2, hn2⟩ : ∃ n, n = t.outs.length := ⟨_, rfl⟩
  obtain ⟨ver, hv⟩ : ∃ n, n = t.ver := ⟨_, rfl⟩
  obtain ⟨lock, hlk⟩ : ∃ n, n = t.lock := ⟨_, rfl⟩
  have hz := zero38
  have es : (w.alloc (.cells #[.int .u32 (ver : Int), .slice A1 n1 c1, .slice A2 n2 c2, .int .u32 (lock : Int)] 26)).heap.size = w.heap.size + 1 := by simp
  have hT0 := Blk.new (w.alloc (.cells #[.int .u32 (ver : Int), .slice A1 n1 c1, .slice A2 n2 c2, .int .u32 (lock : Int)] 26)) 38 (vbs Z32).toArray
  rw [es, List.toList_toArray] at hT0
  have hB0 : Below w.heap.size w ((w.alloc (.cells #[.int .u32 (ver : Int), .slice A1 n1 c1, .slice A2 n2 c2, .int .u32 (lock : Int)] 26)).alloc (.cells (vbs Z32).toArray 38)) := ((Below.refl _ _).alloc (Nat.le_refl _) _).alloc (by simp) _
  obtain ⟨d0, d1, d2, d3⟩ := tx_box (ver : Int) (lock : Int) (.slice A1 n1 c1) (.slice A2 n2 c2) w 26 ((w.alloc (.cells #[.int .u32 (ver : Int), .slice A1 n1 c1, .slice A2 n2 c2, .int .u32 (lock : Int)] 26)).alloc (.cells (vbs Z32).toArray 38)) ((Below.refl _ _).alloc (Nat.le_refl _) _)
  obtain ⟨c, hcc⟩ : ∃ c, c = chk t := ⟨_, rfl⟩
  have KP : Hid (∀ wq, Below w.heap.size w wq → Calls Tryd.prog 8 #[.slice none 0 0, .agg #[.int .u32 (ver : Int), .slice A1 n1 c1, .slice A2 n2 c2, .int .u32 (lock : Int)]] wq (NonePost c wq)) := fun wq hq => by
    have := Put_no t _ _ (.slice none 0 0) wq ((h'.keep hq (Nat.le_refl _)).up hq.size) hc
    unfold txV at this
    rw [← hv, ← hlk, ← hn1, ← hn2, ← hcc] at this
    exact this
  obtain ⟨D, hD⟩ : ∃ D, D = Z32 := ⟨_, rfl⟩
  rw [← hD]
  have HDl := Lib.hid (show D.length = 32 by rw [hD]; rfl)
  have KN : Hid (∀ (wq : World), Calls Tryd.prog 37 #[.slice none 0 0, .int .i64 c] wq (HashP D wq)) := fun wq => by
    rw [hD]; exact name_no _ c wq (by rw [hcc]; exact hc)
  have HT := Lib.hid hT0
  have HB := Lib.hid hB0
  have HG := Lib.hid hG
  have es' := Lib.hid es
  unfold txV
  rw [← hv, ← hlk, ← hn1, ← hn2]
  clear h' hc hn1 hn2 hv hlk hT0 hB0 hG es hD hcc
  go_enter Tryd.func18, Tryd.ntmps18
  go_upto_region 1 with fail
  generalize (w.alloc (.cells #[.int .u32 (ver : Int), .slice A1 n1 c1, .slice A2 n2 c2, .int .u32 (lock : Int)] 26)).alloc (.cells (vbs Z32).toArray 38) = W1 at HT HB d0 d1 d2 d3 ⊢
  clear hz
  go_wp2_with (first
    | (go_at_call 8; (with_reducible refine (KP.out _ HB.out).mono ?_); rintro e w2 ⟨rfl, hb2⟩; have HB2 := Lib.hid hb2; clear hb2; dsimp only)
    | (go_at_call 37; (with_reducible refine (KN.out _).mono ?_); rintro e w3 ⟨rfl, hb3⟩; have HB3 := Lib.hid hb3; have HT3 := Lib.hid ((HT.out.below HB2.out HT.out.lt).below hb3 (HT.out.below HB2.out HT.out.lt).lt); clear hb3; dsimp only)
    | (with_reducible refine wpList_store_mid rfl 38 (.tmp 2) (.tmp 7) rfl (w.heap.size + 1) 0 (vbs D).toArray rfl rfl (there_z HT3.out HDl.out) (i25v HDl.out) (all_oneCell_toArray (vbs_one _)) ?_))
  have hS := HT3.out.setCells (vbs D) (by rw [vbs_len, vbs_len, HDl.out]; rfl)
  have hbb := below_setCells (B := w.heap.size) (b := w.heap.size + 1) (by omega) (vbs D) 0 w3 (HB.out.trans ((HB2.out.mono HB.out.size).trans (HB3.out.mono (Nat.le_trans HB.out.size HB2.out.size))))
  generalize w3.setCells (w.heap.size + 1) 0 (vbs D) = W9 at hS hbb
  exact bodyPost_ret (v := .agg (vbs D).toArray) (results_cell_row Tryd.results18 _ W9 (w.heap.size + 1) 38 (vbs D).toArray (0, 0) _ rfl hS Tryd.underlying38 rfl (i25v HDl.out)) rfl ⟨rfl, hbb⟩

open Go.RowKit
set_option linter.unusedVariables false
set_option linter.unusedSimpArgs false
set_option maxRecDepth 100000
/-- The condition may be made stronger on the way. -/
theorem AnyBut.stronger {P : Program} {ops : Array Oper} {Q : Exit → Act → World → Prop} {md : Region.Mode} {S S' : World → Prop} {z : Nat} (hS : ∀ w, S' w → S w) :
    ∀ {n : Nat} {listed : Array Bool} {a : Act} {w : World}, AnyBut P md ops Q S' z n listed a w → AnyBut P md ops Q S z n listed a w
  | 0, _, _, _, h => h
  | n + 1, _, _, _, h => ⟨h.1, fun i hi => wpOp_mono (fun a' w' h' => ⟨fun hz => hS _ (h'.1 hz), AnyBut.stronger hS h'.2⟩) (h.2 i hi)⟩
theorem SB.trans {a b c : World} (h : SB a b) (k : SB b c) : SB a c := Below.trans h (Below.mono k h.size)
theorem SB.drew (w : World) : SB w w.drew := (Below.refl w.heap.size w).drew
set_option maxHeartbeats 8000000 in
theorem rput_ok5 (t : TTx) (i o : Value) (w : World) (h : TxOk w w.heap.size t i o) (hc : chk t = 0) :
    Calls Tryd.prog 9 #[txV t i o] w (GavePost (layB t (witd t)) w) := by
  have h' := h
  obtain ⟨⟨A1, c1, rfl, _, _, _⟩, ⟨A2, c2, rfl, _, _, _⟩, _, _⟩ := h
  obtain ⟨n1, hn1⟩ : ∃ n, n = t.ins.length := ⟨_, rfl⟩
  obtain ⟨n2, hn2⟩ : ∃ n, n = t.outs.length := ⟨_, rfl⟩
  obtain ⟨ver, hv⟩ : ∃ n, n = t.ver := ⟨_, rfl⟩
  obtain ⟨lock, hlk⟩ : ∃ n, n = t.lock := ⟨_, rfl⟩
  obtain ⟨f, hf⟩ : ∃ f, f = witd t := ⟨_, rfl⟩
  obtain ⟨X, hX⟩ : ∃ X, X = layB t (witd t) := ⟨_, rfl⟩
  have K13 : Hid (∀ wq, Below w.heap.size w wq → Calls Tryd.prog 13 #[.agg #[.int .u32 (ver : Int), .slice A1 n1 c1, .slice A2 n2 c2, .int .u32 (lock : Int)]] wq (IntPost 0 wq)) := fun wq hq => by
    have := rcheck_any t _ _ wq ((h'.keep hq (Nat.le_refl _)).up hq.size)
    rw [hc] at this
    unfold txV at this
    rw [← hv, ← hlk, ← hn1, ← hn2] at this
    exact this
  have K15 : Hid (∀ wq, Below w.heap.size w wq → Calls Tryd.prog 15 #[.agg #[.int .u32 (ver : Int), .slice A1 n1 c1, .slice A2 n2 c2, .int .u32 (lock : Int)]] wq (BoolPost f wq)) := fun wq hq => by
    have := rwit_any t _ _ wq ((h'.keep hq (Nat.le_refl _)).up hq.size)
    unfold txV at this
    rw [← hv, ← hlk, ← hn1, ← hn2, ← hf] at this
    exact this
  have K29 : Hid (∀ wq, Below w.heap.size w wq → Calls Tryd.prog 29 #[.agg #[.int .u32 (ver : Int), .slice A1 n1 c1, .slice A2 n2 c2, .int .u32 (lock : Int)], .bool f] wq (LaidPost X wq)) := fun wq hq => by
    have := rlay_any t _ _ (witd t) wq ((h'.keep hq (Nat.le_refl _)).up hq.size) hc
    unfold txV at this
    rw [← hv, ← hlk, ← hn1, ← hn2, ← hX, ← hf] at this
    exact this
  have HB : Hid (Below w.heap.size w (w.alloc (.cells #[.int .u32 (ver : Int), .slice A1 n1 c1, .slice A2 n2 c2, .int .u32 (lock : Int)] 26))) := (Below.refl _ _).alloc (Nat.le_refl _) _
  have HT := Lib.hid (tx_box (ver : Int) (lock : Int) (.slice A1 n1 c1) (.slice A2 n2 c2) w 26)
  unfold txV
  rw [← hv, ← hlk, ← hn1, ← hn2, ← hX]
  clear h' hc hn1 hn2 hv hlk hX hf
  go_enter Tryd.func9, Tryd.ntmps9
  go_upto_region 4 with (go_at_call 13; (with_reducible refine (K13.out _ HB.out).mono ?_); rintro e w2 ⟨rfl, hb2⟩; have HB2 : Hid (Below w.heap.size w w2) := HB.out.trans (hb2.mono HB.out.size); have HT2 : Hid (SB (w.alloc (.cells #[.int .u32 (ver : Int), .slice A1 n1 c1, .slice A2 n2 c2, .int .u32 (lock : Int)] 26)) w2) := hb2; obtain ⟨d0, d1, d2, d3⟩ := HT.out w2 hb2; clear hb2; dsimp only)
  clear d0 d1 d2 d3
  generalize hWd : w2.drew = Wd
  have E0 : Hid (∀ wq, SB Wd wq → wq.cell? ⟨w.heap.size, 0, none⟩ = some (.int .u32 (ver : Int)) ∧ wq.cell? ⟨w.heap.size, 1, none⟩ = some (.slice A1 n1 c1) ∧ wq.cell? ⟨w.heap.size, 2, none⟩ = some (.slice A2 n2 c2) ∧ wq.cell? ⟨w.heap.size, 3, none⟩ = some (.int .u32 (lock : Int))) := fun wq hq => HT.out wq (SB.trans HT2.out (SB.trans (hWd ▸ SB.drew w2) hq))
  have HBd : Hid (Below w.heap.size w Wd) := HB2.out.trans (Below.mono (hWd ▸ SB.drew w2 : SB w2 Wd) HB2.out.size)
  refine wp_region_but (z := 999) (SB Wd) (by kernel_rfl) ?_
  rw [hWd]
  have hS : SB Wd Wd := SB.refl Wd
  clear hWd
  refine AnyBut.takeE (i := 0) (v := .agg #[.int .u32 (ver : Int), .slice A1 n1 c1, .slice A2 n2 c2, .int .u32 (lock : Int)]) rfl (by kernel_rfl) (by kernel_rfl) (by kernel_rfl) (by kernel_rfl) (fun _ _ _ h => h) (Or.inl ⟨by rfl, ?_⟩) hS ?_
  · intro wq hq
    obtain ⟨dq0, dq1, dq2, dq3⟩ := E0.out wq hq
    go_simp
  try simp only [Act.put, List.setIfInBounds_toArray, List.set_cons_zero, List.set_cons_succ, List.getElem_toArray, List.getElem_cons_zero, List.getElem_cons_succ]
  refine AnyBut.takeE (i := 1) (v := .agg #[.int .u32 (ver : Int), .slice A1 n1 c1, .slice A2 n2 c2, .int .u32 (lock : Int)]) rfl (by kernel_rfl) (by kernel_rfl) (by kernel_rfl) (by kernel_rfl) (fun _ _ _ h => h) (Or.inl ⟨by rfl, ?_⟩) hS ?_
  · intro wq hq
    obtain ⟨dq0, dq1, dq2, dq3⟩ := E0.out wq hq
    go_simp
  try simp only [Act.put, List.setIfInBounds_toArray, List.set_cons_zero, List.set_cons_succ, List.getElem_toArray, List.getElem_cons_zero, List.getElem_cons_succ]
  refine AnyBut.gone (i := 2) (by kernel_rfl) rfl (by rfl) (fun K hK => ?_)
  go_simp
  (with_reducible refine (K15.out _ HBd.out).mono ?_)
  rintro e w3 ⟨rfl, hb⟩
  have hS3 : SB Wd w3 := SB.next hS hb
  have HS3 := Lib.hid hS3
  have HBl3 := Lib.hid hb
  clear hb
  dsimp only
  refine hK _ _ (fun _ => hS3) ?_
  clear hK K hS
  try simp only [Act.put, List.setIfInBounds_toArray, List.set_cons_zero, List.set_cons_succ, List.getElem_toArray, List.getElem_cons_zero, List.getElem_cons_succ]
  refine AnyBut.stronger (S' := SB w3) (fun _ h => Below.trans hS3 (Below.mono h hS3.size)) ?_
  clear hS3
  have hS : SB w3 w3 := SB.refl w3
  have HB3 : Hid (Below w.heap.size w w3) := HBd.out.trans (Below.mono HS3.out HBd.out.size)
  refine AnyBut.gone (i := 3) (by kernel_rfl) rfl (by rfl) (fun K hK => ?_)
  go_simp
  (with_reducible refine (K29.out _ HB3.out).mono ?_)
  rintro e w4 ⟨v4, rfl, ho, hb⟩
  obtain ⟨A4, c4, rfl, _, _⟩ := slice_form ho
  have HO4 := Lib.hid (ho.base HB3.out.size)
  clear ho
  have hS4 : SB w3 w4 := SB.next hS hb
  have HS4 := Lib.hid hS4
  have HBl4 := Lib.hid hb
  clear hb
  dsimp only
  refine hK _ _ (fun _ => hS4) ?_
  clear hK K hS
  try simp only [Act.put, List.setIfInBounds_toArray, List.set_cons_zero, List.set_cons_succ, List.getElem_toArray, List.getElem_cons_zero, List.getElem_cons_succ]
  refine AnyBut.stronger (S' := SB w4) (fun _ h => Below.trans hS4 (Below.mono h hS4.size)) ?_
  clear hS4
  have hS : SB w4 w4 := SB.refl w4
  refine AnyBut.takeE (i := 4) (v := ?_) rfl (by kernel_rfl) (by kernel_rfl) (by kernel_rfl) (by kernel_rfl) (fun _ _ _ h => h) (Or.inl ⟨by rfl, ?_⟩) hS ?_
  rotate_left
  · (intro wq hq; go_simp; try with_reducible rfl)
  try simp only [Act.put, List.setIfInBounds_toArray, List.set_cons_zero, List.set_cons_succ, List.getElem_toArray, List.getElem_cons_zero, List.getElem_cons_succ]
  refine AnyBut.gone (i := 5) (by kernel_rfl) rfl (by rfl) (fun K hK => ?_)
  go_simp
  refine hK _ _ (fun _ => hS) ?_
  clear hK K
  refine AnyBut.done (by kernel_rfl) ?_ _
  try dsimp only [Exit.then]
  clear hS
  have HB4 : Hid (Below w.heap.size w w4) := HB3.out.trans (Below.mono HS4.out HB3.out.size)
  go_wp2_with fail
  go_ret2
  exact ⟨A4, c4, rfl, HO4.out, HB4.out⟩
set_option maxHeartbeats 4000000 in
theorem rid5_ok (t : TTx) (i o : Value) (w : World) (h : TxOk w w.heap.size t i o) (hc : chk t = 0) :
    Calls Tryd.prog 17 #[txV t i o] w (HashP (twiceB (layB t false)) w) := by
  have h' := h
  obtain ⟨⟨A1, c1, rfl, _, _, _⟩, ⟨A2, c2, rfl, _, _, _⟩, _, _⟩ := h
  obtain ⟨n1, hn1⟩ : ∃ n, n = t.ins.length := ⟨_, rfl⟩
  obtain ⟨n2, hn2⟩ : ∃ n, n = t.outs.length := ⟨_, rfl⟩
  obtain ⟨ver, hv⟩ : ∃ n, n = t.ver := ⟨_, rfl⟩
  obtain ⟨lock, hlk⟩ : ∃ n, n = t.lock := ⟨_, rfl⟩
  have hz := zero38
  have es : (w.alloc (.cells #[.int .u32 (ver : Int), .slice A1 n1 c1, .slice A2 n2 c2, .int .u32 (lock : Int)] 26)).heap.size = w.heap.size + 1 := by simp
  have hT0 := Blk.new (w.alloc (.cells #[.int .u32 (ver : Int), .slice A1 n1 c1, .slice A2 n2 c2, .int .u32 (lock : Int)] 26)) 38 (vbs Z32).toArray
  rw [es, List.toList_toArray] at hT0
  have hB0 : Below w.heap.size w ((w.alloc (.cells #[.int .u32 (ver : Int), .slice A1 n1 c1, .slice A2 n2 c2, .int .u32 (lock : Int)] 26)).alloc (.cells (vbs Z32).toArray 38)) := ((Below.refl _ _).alloc (Nat.le_refl _) _).alloc (by simp) _
  obtain ⟨d0, d1, d2, d3⟩ := tx_box (ver : Int) (lock : Int) (.slice A1 n1 c1) (.slice A2 n2 c2) w 26 ((w.alloc (.cells #[.int .u32 (ver : Int), .slice A1 n1 c1, .slice A2 n2 c2, .int .u32 (lock : Int)] 26)).alloc (.cells (vbs Z32).toArray 38)) ((Below.refl _ _).alloc (Nat.le_refl _) _)
  obtain ⟨X, hX⟩ : ∃ X, X = layB t false := ⟨_, rfl⟩
  have hXl : X.length ≤ 100000 := by rw [hX]; exact lay_len _ h' hc
  have KP : Hid (∀ wq, Below w.heap.size w wq → Calls Tryd.prog 11 #[.agg #[.int .u32 (ver : Int), .slice A1 n1 c1, .slice A2 n2 c2, .int .u32 (lock : Int)]] wq (GavePost X wq)) := fun wq hq => by
    have := rbare_ok t _ _ wq ((h'.keep hq (Nat.le_refl _)).up hq.size) hc
    unfold txV at this
    rw [← hv, ← hlk, ← hn1, ← hn2, ← hX] at this
    exact this
  obtain ⟨D, hD⟩ : ∃ D, D = twiceB X := ⟨_, rfl⟩
  rw [← hX, ← hD]
  have HDl := Lib.hid (show D.length = 32 by rw [hD]; exact sumB_len _)
  have KN : Hid (∀ (A : Option Addr) (n c : Nat) (wq : World), X.length = n → Rd wq wq.heap.size A X → n ≤ c → (A = none → c = 0) → Calls Tryd.prog 38 #[.slice A n c] wq (HashP D wq)) := fun A n c wq e r l z => by
    have := rtwice_any A c X wq r (by omega) z (by omega)
    rw [e, ← hD] at this
    exact this
  have HT := Lib.hid hT0
  have HB := Lib.hid hB0
  have es' := Lib.hid es
  unfold txV
  rw [← hv, ← hlk, ← hn1, ← hn2]
  clear h' hc hn1 hn2 hv hlk hT0 hB0 es hD hX hXl
  go_enter Tryd.func17, Tryd.ntmps17
  go_upto_region 1 with fail
  generalize (w.alloc (.cells #[.int .u32 (ver : Int), .slice A1 n1 c1, .slice A2 n2 c2, .int .u32 (lock : Int)] 26)).alloc (.cells (vbs Z32).toArray 38) = W1 at HT HB d0 d1 d2 d3 ⊢
  clear hz
  go_wp2_with (first
    | (go_at_call 11; (with_reducible refine (KP.out _ HB.out).mono ?_); rintro e w2 ⟨A4, c4, rfl, ho2, hb2⟩; obtain ⟨A5, c5, e5, hr5, hc5, _, hn5⟩ := ho2.rd; injection e5 with e6 e7 e8; subst e6 e8; have HR5 := Lib.hid hr5; have HC5 := Lib.hid hc5; have HN5 := Lib.hid hn5; have HB2 := Lib.hid hb2; clear ho2 hb2 hr5 hc5 hn5; dsimp only)
    | (go_at_call 38; (with_reducible refine (KN.out _ _ _ _ rfl HR5.out HC5.out HN5.out).mono ?_); rintro e w3 ⟨rfl, hb3⟩; have HB3 := Lib.hid hb3; have HT3 := Lib.hid ((HT.out.below HB2.out HT.out.lt).below hb3 (HT.out.below HB2.out HT.out.lt).lt); clear hb3; dsimp only)
    | (with_reducible refine wpList_store_mid rfl 38 (.tmp 2) (.tmp 14) rfl (w.heap.size + 1) 0 (vbs D).toArray rfl rfl (there_z HT3.out HDl.out) (i25v HDl.out) (all_oneCell_toArray (vbs_one _)) ?_))
  have hbq : Below w.heap.size w w3 := HB.out.trans ((HB2.out.mono HB.out.size).trans (HB3.out.mono (Nat.le_trans HB.out.size HB2.out.size)))
  have hS := HT3.out.setCells (vbs D) (by rw [vbs_len, vbs_len, HDl.out]; rfl)
  have hbb := below_setCells (B := w.heap.size) (b := w.heap.size + 1) (by omega) (vbs D) 0 w3 hbq
  generalize w3.setCells (w.heap.size + 1) 0 (vbs D) = W9 at hS hbb
  exact bodyPost_ret (v := .agg (vbs D).toArray) (results_cell_row Tryd.results17 _ W9 (w.heap.size + 1) 38 (vbs D).toArray (0, 0) _ rfl hS Tryd.underlying38 rfl (i25v HDl.out)) rfl ⟨rfl, hbb⟩
set_option maxHeartbeats 4000000 in
theorem rid5_no (t : TTx) (i o : Value) (w : World) (h : TxOk w w.heap.size t i o) (hc : chk t ≠ 0) :
    Calls Tryd.prog 17 #[txV t i o] w (HashP Z32 w) := by
  have h' := h
  obtain ⟨⟨A1, c1, rfl, _, _, _⟩, ⟨A2, c2, rfl, _, _, _⟩, _, _⟩ := h
  obtain ⟨n1, hn1⟩ : ∃ n, n = t.ins.length := ⟨_, rfl⟩
  obtain ⟨n2, hn2⟩ : ∃ n, n = t.outs.length := ⟨_, rfl⟩
  obtain ⟨ver, hv⟩ : ∃ n, n = t.ver := ⟨_, rfl⟩
  obtain ⟨lock, hlk⟩ : ∃ n, n = t.lock := ⟨_, rfl⟩
  have hz := zero38
  have es : (w.alloc (.cells #[.int .u32 (ver : Int), .slice A1 n1 c1, .slice A2 n2 c2, .int .u32 (lock : Int)] 26)).heap.size = w.heap.size + 1 := by simp
  have hT0 := Blk.new (w.alloc (.cells #[.int .u32 (ver : Int), .slice A1 n1 c1, .slice A2 n2 c2, .int .u32 (lock : Int)] 26)) 38 (vbs Z32).toArray
  rw [es, List.toList_toArray] at hT0
  have hB0 : Below w.heap.size w ((w.alloc (.cells #[.int .u32 (ver : Int), .slice A1 n1 c1, .slice A2 n2 c2, .int .u32 (lock : Int)] 26)).alloc (.cells (vbs Z32).toArray 38)) := ((Below.refl _ _).alloc (Nat.le_refl _) _).alloc (by simp) _
  obtain ⟨d0, d1, d2, d3⟩ := tx_box (ver : Int) (lock : Int) (.slice A1 n1 c1) (.slice A2 n2 c2) w 26 ((w.alloc (.cells #[.int .u32 (ver : Int), .slice A1 n1 c1, .slice A2 n2 c2, .int .u32 (lock : Int)] 26)).alloc (.cells (vbs Z32).toArray 38)) ((Below.refl _ _).alloc (Nat.le_refl _) _)
  obtain ⟨c, hcc⟩ : ∃ c, c = chk t := ⟨_, rfl⟩
  have KP : Hid (∀ wq, Below w.heap.size w wq → Calls Tryd.prog 11 #[.agg #[.int .u32 (ver : Int), .slice A1 n1 c1, .slice A2 n2 c2, .int .u32 (lock : Int)]] wq (NonePost c wq)) := fun wq hq => by
    have := rbare_no t _ _ wq ((h'.keep hq (Nat.le_refl _)).up hq.size) hc
    unfold txV at this
    rw [← hv, ← hlk, ← hn1, ← hn2, ← hcc] at this
    exact this
  obtain ⟨D, hD⟩ : ∃ D, D = Z32 := ⟨_, rfl⟩
  rw [← hD]
  have HDl := Lib.hid (show D.length = 32 by rw [hD]; rfl)
  have HDe := Lib.hid hD
  have hne : (c != 0) = true := by rw [hcc]; simpa using hc
  have HT := Lib.hid hT0
  have HB := Lib.hid hB0
  have es' := Lib.hid es
  unfold txV
  rw [← hv, ← hlk, ← hn1, ← hn2]
  clear h' hc hn1 hn2 hv hlk hT0 hB0 es hD hcc
  go_enter Tryd.func17, Tryd.ntmps17
  go_upto_region 1 with fail
  generalize (w.alloc (.cells #[.int .u32 (ver : Int), .slice A1 n1 c1, .slice A2 n2 c2, .int .u32 (lock : Int)] 26)).alloc (.cells (vbs Z32).toArray 38) = W1 at HT HB d0 d1 d2 d3 ⊢
  clear hz
  go_wp2_with (first
    | (go_at_call 11; (with_reducible refine (KP.out _ HB.out).mono ?_); rintro e w3 ⟨rfl, hb2⟩; have HB2 := Lib.hid hb2; have HT3 := Lib.hid (HT.out.below hb2 HT.out.lt); clear hb2; dsimp only)
    | (refine wpList_zero38 rfl rfl ?_; rw [← HDe.out])
    | (with_reducible refine wpList_store_mid rfl 38 (.tmp 2) (.tmp 12) rfl (w.heap.size + 1) 0 (vbs D).toArray rfl rfl (there_z HT3.out HDl.out) (i25v HDl.out) (all_oneCell_toArray (vbs_one _)) ?_))
  have hbq : Below w.heap.size w w3 := HB.out.trans (HB2.out.mono HB.out.size)
  have hS := HT3.out.setCells (vbs D) (by rw [vbs_len, vbs_len, HDl.out]; rfl)
  have hbb := below_setCells (B := w.heap.size) (b := w.heap.size + 1) (by omega) (vbs D) 0 w3 hbq
  generalize w3.setCells (w.heap.size + 1) 0 (vbs D) = W9 at hS hbb
  exact bodyPost_ret (v := .agg (vbs D).toArray) (results_cell_row Tryd.results17 _ W9 (w.heap.size + 1) 38 (vbs D).toArray (0, 0) _ rfl hS Tryd.underlying38 rfl (i25v HDl.out)) rfl ⟨rfl, hbb⟩
set_option maxHeartbeats 4000000 in
theorem rfull5_ok (t : TTx) (i o : Value) (w : World) (h : TxOk w w.heap.size t i o) (hc : chk t = 0) :
    Calls Tryd.prog 19 #[txV t i o] w (HashP (twiceB (layB t (witd t))) w) := by
  have h' := h
  obtain ⟨⟨A1, c1, rfl, _, _, _⟩, ⟨A2, c2, rfl, _, _, _⟩, _, _⟩ := h
  obtain ⟨n1, hn1⟩ : ∃ n, n = t.ins.length := ⟨_, rfl⟩
  obtain ⟨n2, hn2⟩ : ∃ n, n = t.outs.length := ⟨_, rfl⟩
  obtain ⟨ver, hv⟩ : ∃ n, n = t.ver := ⟨_, rfl⟩
  obtain ⟨lock, hlk⟩ : ∃ n, n = t.lock := ⟨_, rfl⟩
  have hz := zero38
  have es : (w.alloc (.cells #[.int .u32 (ver : Int), .slice A1 n1 c1, .slice A2 n2 c2, .int .u32 (lock : Int)] 26)).heap.size = w.heap.size + 1 := by simp
  have hT0 := Blk.new (w.alloc (.cells #[.int .u32 (ver : Int), .slice A1 n1 c1, .slice A2 n2 c2, .int .u32 (lock : Int)] 26)) 38 (vbs Z32).toArray
  rw [es, List.toList_toArray] at hT0
  have hB0 : Below w.heap.size w ((w.alloc (.cells #[.int .u32 (ver : Int), .slice A1 n1 c1, .slice A2 n2 c2, .int .u32 (lock : Int)] 26)).alloc (.cells (vbs Z32).toArray 38)) := ((Below.refl _ _).alloc (Nat.le_refl _) _).alloc (by simp) _
  obtain ⟨d0, d1, d2, d3⟩ := tx_box (ver : Int) (lock : Int) (.slice A1 n1 c1) (.slice A2 n2 c2) w 26 ((w.alloc (.cells #[.int .u32 (ver : Int), .slice A1 n1 c1, .slice A2 n2 c2, .int .u32 (lock : Int)] 26)).alloc (.cells (vbs Z32).toArray 38)) ((Below.refl _ _).alloc (Nat.le_refl _) _)
  obtain ⟨X, hX⟩ : ∃ X, X = layB t (witd t) := ⟨_, rfl⟩
  have hXl : X.length ≤ 100000 := by rw [hX]; exact lay_len _ h' hc
  have KP : Hid (∀ wq, Below w.heap.size w wq → Calls Tryd.prog 9 #[.agg #[.int .u32 (ver : Int), .slice A1 n1 c1, .slice A2 n2 c2, .int .u32 (lock : Int)]] wq (GavePost X wq)) := fun wq hq => by
    have := rput_ok5 t _ _ wq ((h'.keep hq (Nat.le_refl _)).up hq.size) hc
    unfold txV at this
    rw [← hv, ← hlk, ← hn1, ← hn2, ← hX] at this
    exact this
  obtain ⟨D, hD⟩ : ∃ D, D = twiceB X := ⟨_, rfl⟩
  rw [← hX, ← hD]
  have HDl := Lib.hid (show D.length = 32 by rw [hD]; exact sumB_len _)
  have KN : Hid (∀ (A : Option Addr) (n c : Nat) (wq : World), X.length = n → Rd wq wq.heap.size A X → n ≤ c → (A = none → c = 0) → Calls Tryd.prog 38 #[.slice A n c] wq (HashP D wq)) := fun A n c wq e r l z => by
    have := rtwice_any A c X wq r (by omega) z (by omega)
    rw [e, ← hD] at this
    exact this
  have HT := Lib.hid hT0
  have HB := Lib.hid hB0
  have es' := Lib.hid es
  unfold txV
  rw [← hv, ← hlk, ← hn1, ← hn2]
  clear h' hc hn1 hn2 hv hlk hT0 hB0 es hD hX hXl
  go_enter Tryd.func19, Tryd.ntmps19
  go_upto_region 1 with fail
  generalize (w.alloc (.cells #[.int .u32 (ver : Int), .slice A1 n1 c1, .slice A2 n2 c2, .int .u32 (lock : Int)] 26)).alloc (.cells (vbs Z32).toArray 38) = W1 at HT HB d0 d1 d2 d3 ⊢
  clear hz
  go_wp2_with (first
    | (go_at_call 9; (with_reducible refine (KP.out _ HB.out).mono ?_); rintro e w2 ⟨A4, c4, rfl, ho2, hb2⟩; obtain ⟨A5, c5, e5, hr5, hc5, _, hn5⟩ := ho2.rd; injection e5 with e6 e7 e8; subst e6 e8; have HR5 := Lib.hid hr5; have HC5 := Lib.hid hc5; have HN5 := Lib.hid hn5; have HB2 := Lib.hid hb2; clear ho2 hb2 hr5 hc5 hn5; dsimp only)
    | (go_at_call 38; (with_reducible refine (KN.out _ _ _ _ rfl HR5.out HC5.out HN5.out).mono ?_); rintro e w3 ⟨rfl, hb3⟩; have HB3 := Lib.hid hb3; have HT3 := Lib.hid ((HT.out.below HB2.out HT.out.lt).below hb3 (HT.out.below HB2.out HT.out.lt).lt); clear hb3; dsimp only)
    | (with_reducible refine wpList_store_mid rfl 38 (.tmp 2) (.tmp 14) rfl (w.heap.size + 1) 0 (vbs D).toArray rfl rfl (there_z HT3.out HDl.out) (i25v HDl.out) (all_oneCell_toArray (vbs_one _)) ?_))
  have hbq : Below w.heap.size w w3 := HB.out.trans ((HB2.out.mono HB.out.size).trans (HB3.out.mono (Nat.le_trans HB.out.size HB2.out.size)))
  have hS := HT3.out.setCells (vbs D) (by rw [vbs_len, vbs_len, HDl.out]; rfl)
  have hbb := below_setCells (B := w.heap.size) (b := w.heap.size + 1) (by omega) (vbs D) 0 w3 hbq
  generalize w3.setCells (w.heap.size + 1) 0 (vbs D) = W9 at hS hbb
  exact bodyPost_ret (v := .agg (vbs D).toArray) (results_cell_row Tryd.results19 _ W9 (w.heap.size + 1) 38 (vbs D).toArray (0, 0) _ rfl hS Tryd.underlying38 rfl (i25v HDl.out)) rfl ⟨rfl, hbb⟩
set_option maxHeartbeats 4000000 in
theorem rfull5_no (t : TTx) (i o : Value) (w : World) (h : TxOk w w.heap.size t i o) (hc : chk t ≠ 0) :
    Calls Tryd.prog 19 #[txV t i o] w (HashP Z32 w) := by
  have h' := h
  obtain ⟨⟨A1, c1, rfl, _, _, _⟩, ⟨A2, c2, rfl, _, _, _⟩, _, _⟩ := h
  obtain ⟨n1, hn1⟩ : ∃ n, n = t.ins.length := ⟨_, rfl⟩
  obtain ⟨n2, hn2⟩ : ∃ n, n = t.outs.length := ⟨_, rfl⟩
  obtain ⟨ver, hv⟩ : ∃ n, n = t.ver := ⟨_, rfl⟩
  obtain ⟨lock, hlk⟩ : ∃ n, n = t.lock := ⟨_, rfl⟩
  have hz := zero38
  have es : (w.alloc (.cells #[.int .u32 (ver : Int), .slice A1 n1 c1, .slice A2 n2 c2, .int .u32 (lock : Int)] 26)).heap.size = w.heap.size + 1 := by simp
  have hT0 := Blk.new (w.alloc (.cells #[.int .u32 (ver : Int), .slice A1 n1 c1, .slice A2 n2 c2, .int .u32 (lock : Int)] 26)) 38 (vbs Z32).toArray
  rw [es, List.toList_toArray] at hT0
  have hB0 : Below w.heap.size w ((w.alloc (.cells #[.int .u32 (ver : Int), .slice A1 n1 c1, .slice A2 n2 c2, .int .u32 (lock : Int)] 26)).alloc (.cells (vbs Z32).toArray 38)) := ((Below.refl _ _).alloc (Nat.le_refl _) _).alloc (by simp) _
  obtain ⟨d0, d1, d2, d3⟩ := tx_box (ver : Int) (lock : Int) (.slice A1 n1 c1) (.slice A2 n2 c2) w 26 ((w.alloc (.cells #[.int .u32 (ver : Int), .slice A1 n1 c1, .slice A2 n2 c2, .int .u32 (lock : Int)] 26)).alloc (.cells (vbs Z32).toArray 38)) ((Below.refl _ _).alloc (Nat.le_refl _) _)
  obtain ⟨c, hcc⟩ : ∃ c, c = chk t := ⟨_, rfl⟩
  have KP : Hid (∀ wq, Below w.heap.size w wq → Calls Tryd.prog 9 #[.agg #[.int .u32 (ver : Int), .slice A1 n1 c1, .slice A2 n2 c2, .int .u32 (lock : Int)]] wq (NonePost c wq)) := fun wq hq => by
    have := rput_no5 t _ _ wq ((h'.keep hq (Nat.le_refl _)).up hq.size) hc
    unfold txV at this
    rw [← hv, ← hlk, ← hn1, ← hn2, ← hcc] at this
    exact this
  obtain ⟨D, hD⟩ : ∃ D, D = Z32 := ⟨_, rfl⟩
  rw [← hD]
  have HDl := Lib.hid (show D.length = 32 by rw [hD]; rfl)
  have HDe := Lib.hid hD
  have hne : (c != 0) = true := by rw [hcc]; simpa using hc
  have HT := Lib.hid hT0
  have HB := Lib.hid hB0
  have es' := Lib.hid es
  unfold txV
  rw [← hv, ← hlk, ← hn1, ← hn2]
  clear h' hc hn1 hn2 hv hlk hT0 hB0 es hD hcc
  go_enter Tryd.func19, Tryd.ntmps19
  go_upto_region 1 with fail
  generalize (w.alloc (.cells #[.int .u32 (ver : Int), .slice A1 n1 c1, .slice A2 n2 c2, .int .u32 (lock : Int)] 26)).alloc (.cells (vbs Z32).toArray 38) = W1 at HT HB d0 d1 d2 d3 ⊢
  clear hz
  go_wp2_with (first
    | (go_at_call 9; (with_reducible refine (KP.out _ HB.out).mono ?_); rintro e w3 ⟨rfl, hb2⟩; have HB2 := Lib.hid hb2; have HT3 := Lib.hid (HT.out.below hb2 HT.out.lt); clear hb2; dsimp only)
    | (refine wpList_zero38 rfl rfl ?_; rw [← HDe.out])
    | (with_reducible refine wpList_store_mid rfl 38 (.tmp 2) (.tmp 12) rfl (w.heap.size + 1) 0 (vbs D).toArray rfl rfl (there_z HT3.out HDl.out) (i25v HDl.out) (all_oneCell_toArray (vbs_one _)) ?_))
  have hbq : Below w.heap.size w w3 := HB.out.trans (HB2.out.mono HB.out.size)
  have hS := HT3.out.setCells (vbs D) (by rw [vbs_len, vbs_len, HDl.out]; rfl)
  have hbb := below_setCells (B := w.heap.size) (b := w.heap.size + 1) (by omega) (vbs D) 0 w3 hbq
  generalize w3.setCells (w.heap.size + 1) 0 (vbs D) = W9 at hS hbb
  exact bodyPost_ret (v := .agg (vbs D).toArray) (results_cell_row Tryd.results19 _ W9 (w.heap.size + 1) 38 (vbs D).toArray (0, 0) _ rfl hS Tryd.underlying38 rfl (i25v HDl.out)) rfl ⟨rfl, hbb⟩
open Go.RowKit
set_option linter.unusedVariables false
set_option linter.unusedSimpArgs false
set_option maxRecDepth 100000
/-- The chapter's transaction, with a witness or without. -/
def IG (wt : List (List (BitVec 8))) : TIn := ⟨Z32, 0, [], 5, wt⟩
def TG (wt : List (List (BitVec 8))) : TTx := ⟨1, [IG wt], [⟨7, [81]⟩], 9⟩
def vG (gi go : Nat) : Value := .agg #[.int .u32 1, .slice (some ⟨gi, 0, none⟩) 1 1, .slice (some ⟨go, 0, none⟩) 1 1, .int .u32 9]
def GivenPost (w : World) (e : Ending) (w' : World) : Prop :=
  ∃ gi gs go, e = .returned (vG gi go) ∧ Blk w' gi 57 (inV (IG []) (.slice none 0 0) (.slice none 0 0)) ∧ Blk w' gs 5 [.int .u8 81] ∧ Blk w' go 43 [.int .i64 7, .slice (some ⟨gs, 0, none⟩) 1 1] ∧ w.heap.size ≤ gi ∧ Below w.heap.size w w'
theorem sl_one {w : World} {g B : Nat} (x : BitVec 8) (h : Blk w g 5 [.int .u8 (Bt x)]) (hg : g < B) : Sl w B (.slice (some ⟨g, 0, none⟩) 1 1) [x] :=
  ⟨_, 1, rfl, fun _ => ⟨g, 0, rfl, hg, fun j hj => by
    have : j = 0 := by simp at hj; omega
    subst this
    exact h.cell rfl⟩, Nat.le_refl _, by omega, fun h => by cases h⟩
theorem tg_ok {w : World} {gi gs go : Nat} {u : Value} {wt : List (List (BitVec 8))} (hi : Blk w gi 57 (inV (IG wt) (.slice none 0 0) u)) (hu : Ws w w.heap.size u wt) (ho : Blk w go 43 [.int .i64 7, .slice (some ⟨gs, 0, none⟩) 1 1]) (hs : Blk w gs 5 [.int .u8 81]) :
    TxOk w w.heap.size (TG wt) (.slice (some ⟨gi, 0, none⟩) 1 1) (.slice (some ⟨go, 0, none⟩) 1 1) := by
  refine ⟨⟨_, 1, rfl, Nat.le_refl _, by omega, fun _ => ⟨gi, 0, rfl, hi.lt, fun j hj => ?_⟩⟩, ⟨_, 1, rfl, Nat.le_refl _, by omega, fun _ => ⟨go, 0, rfl, ho.lt, fun j hj => ?_⟩⟩, show (1 : Nat) < 4294967296 by omega, show (9 : Nat) < 4294967296 by omega⟩
  · have : j = 0 := by simp [TG] at hj; omega
    subst this
    exact ⟨.slice none 0 0, u, hi.range, Sl.nil _ _, hu, rfl, show (0 : Nat) < 4294967296 by omega, show (5 : Nat) < 4294967296 by omega⟩
  · have : j = 0 := by simp [TG] at hj; omega
    subst this
    exact ⟨.slice (some ⟨gs, 0, none⟩) 1 1, ho.range, sl_one 81 hs hs.lt, show (-9223372036854775808 : Int) ≤ 7 by omega, show (7 : Int) < 9223372036854775808 by omega⟩
set_option maxHeartbeats 4000000 in
theorem given_any (w : World) : Calls Tryd.prog 20 #[] w (GivenPost w) := by
  go_enter Tryd.func20, Tryd.ntmps20
  go_wp2_with fail
  refine bodyPost_ret (v := vG (w.heap.size + 1) (w.heap.size + 1 + 1 + 1)) (by simp [results, Tryd.results20, go_sem, vG]) rfl ⟨w.heap.size + 1, w.heap.size + 1 + 1, w.heap.size + 1 + 1 + 1, rfl, ?_, ?_, ?_, by omega, ?_⟩
  · refine Blk.alloc (Blk.alloc ?_ _) _
    have := Blk.new (w.alloc (.cells #[.int .u32 1, .slice (some ⟨w.heap.size + 1, 0, none⟩) 1 1, .slice (some ⟨w.heap.size + 1 + 1 + 1, 0, none⟩) 1 1, .int .u32 9] 26)) 57 (inV (IG []) (.slice none 0 0) (.slice none 0 0)).toArray
    rw [List.toList_toArray] at this
    have e : (w.alloc (.cells #[.int .u32 1, .slice (some ⟨w.heap.size + 1, 0, none⟩) 1 1, .slice (some ⟨w.heap.size + 1 + 1 + 1, 0, none⟩) 1 1, .int .u32 9] 26)).heap.size = w.heap.size + 1 := by simp
    rw [e] at this
    exact this
  · refine Blk.alloc ?_ _
    have := Blk.new ((w.alloc (.cells #[.int .u32 1, .slice (some ⟨w.heap.size + 1, 0, none⟩) 1 1, .slice (some ⟨w.heap.size + 1 + 1 + 1, 0, none⟩) 1 1, .int .u32 9] 26)).alloc (.cells (inV (IG []) (.slice none 0 0) (.slice none 0 0)).toArray 57)) 5 #[.int .u8 81]
    have e : ((w.alloc (.cells #[.int .u32 1, .slice (some ⟨w.heap.size + 1, 0, none⟩) 1 1, .slice (some ⟨w.heap.size + 1 + 1 + 1, 0, none⟩) 1 1, .int .u32 9] 26)).alloc (.cells (inV (IG []) (.slice none 0 0) (.slice none 0 0)).toArray 57)).heap.size = w.heap.size + 1 + 1 := by simp
    rw [e] at this
    exact this
  · have := Blk.new (((w.alloc (.cells #[.int .u32 1, .slice (some ⟨w.heap.size + 1, 0, none⟩) 1 1, .slice (some ⟨w.heap.size + 1 + 1 + 1, 0, none⟩) 1 1, .int .u32 9] 26)).alloc (.cells (inV (IG []) (.slice none 0 0) (.slice none 0 0)).toArray 57)).alloc (.cells #[.int .u8 81] 5)) 43 #[.int .i64 7, .slice (some ⟨w.heap.size + 1 + 1, 0, none⟩) 1 1]
    have e : (((w.alloc (.cells #[.int .u32 1, .slice (some ⟨w.heap.size + 1, 0, none⟩) 1 1, .slice (some ⟨w.heap.size + 1 + 1 + 1, 0, none⟩) 1 1, .int .u32 9] 26)).alloc (.cells (inV (IG []) (.slice none 0 0) (.slice none 0 0)).toArray 57)).alloc (.cells #[.int .u8 81] 5)).heap.size = w.heap.size + 1 + 1 + 1 := by simp
    rw [e] at this
    exact this
  · exact ((((Below.refl _ _).alloc (Nat.le_refl _) _).alloc (by simp) _).alloc (by simp; omega) _).alloc (by simp; omega) _
def WitdPost (w : World) (e : Ending) (w' : World) : Prop :=
  ∃ gi go, e = .returned (vG gi go) ∧ TxOk w' w'.heap.size (TG [[170]]) (.slice (some ⟨gi, 0, none⟩) 1 1) (.slice (some ⟨go, 0, none⟩) 1 1) ∧ Below w.heap.size w w'
theorem blk_ne {w : World} {a b : Nat} {T T' : TypeId} {vs us : List Value} (h : Blk w a T vs) (h' : Blk w b T' us) (hT : T ≠ T') : a ≠ b := by
  intro e
  subst e
  unfold Blk at h h'
  rw [h] at h'
  simp at h'
  exact hT h'.2
theorem inV_set {wt : List (List (BitVec 8))} {s u v : Value} : (inV (IG wt) s u).set 35 v = inV (IG [[170]]) s v := rfl
set_option maxHeartbeats 4000000 in
theorem witness_any (w : World) : Calls Tryd.prog 22 #[] w (WitdPost w) := by
  have K := Lib.hid (given_any)
  have hb0 : Hid (Below w.heap.size w (w.alloc (Obj.cells #[.int .u32 0, .slice none 0 0, .slice none 0 0, .int .u32 0] 26))) := (Below.refl _ _).alloc (Nat.le_refl _) _
  go_enter Tryd.func22, Tryd.ntmps22
  go_upto_region 2 with (go_at_call 20; (refine (K.out _).mono ?_); rintro e w2 ⟨gi, gs, go, rfl, hI, hS, hO, hge, hb⟩; have HI := Lib.hid hI; have HS := Lib.hid hS; have HO := Lib.hid hO; have HB := Lib.hid hb; have HGe := Lib.hid hge; clear hI hS hO hb hge; unfold vG; dsimp only)
  have hT : Blk (w2.alloc (.cells #[.int .u32 1, .slice (some ⟨gi, 0, none⟩) 1 1, .slice (some ⟨go, 0, none⟩) 1 1, .int .u32 9] 26)) w2.heap.size 26 [.int .u32 1, .slice (some ⟨gi, 0, none⟩) 1 1, .slice (some ⟨go, 0, none⟩) 1 1, .int .u32 9] := Blk.new w2 26 #[.int .u32 1, .slice (some ⟨gi, 0, none⟩) 1 1, .slice (some ⟨go, 0, none⟩) 1 1, .int .u32 9]
  have hI := HI.out.alloc (.cells #[.int .u32 1, .slice (some ⟨gi, 0, none⟩) 1 1, .slice (some ⟨go, 0, none⟩) 1 1, .int .u32 9] 26)
  have hS := HS.out.alloc (.cells #[.int .u32 1, .slice (some ⟨gi, 0, none⟩) 1 1, .slice (some ⟨go, 0, none⟩) 1 1, .int .u32 9] 26)
  have hO := HO.out.alloc (.cells #[.int .u32 1, .slice (some ⟨gi, 0, none⟩) 1 1, .slice (some ⟨go, 0, none⟩) 1 1, .int .u32 9] 26)
  have hW : Blk (w2.alloc (.cells #[.int .u32 1, .slice (some ⟨gi, 0, none⟩) 1 1, .slice (some ⟨go, 0, none⟩) 1 1, .int .u32 9] 26)) w.heap.size 26 [.int .u32 0, .slice none 0 0, .slice none 0 0, .int .u32 0] :=
    (Blk.below (Blk.new w 26 #[.int .u32 0, .slice none 0 0, .slice none 0 0, .int .u32 0]) HB.out (by simp)).alloc _
  have hb : Below w.heap.size w (w2.alloc (.cells #[.int .u32 1, .slice (some ⟨gi, 0, none⟩) 1 1, .slice (some ⟨go, 0, none⟩) 1 1, .int .u32 9] 26)) := (hb0.out.trans (HB.out.mono (by simp))).alloc (by have := HB.out.size; simp at this; omega) _
  have hge : w.heap.size < gi := by have := HGe.out; simp at this; omega
  have htg : w2.heap.size ≠ gi := by have := HI.out.lt; omega
  have hwt : w.heap.size ≠ w2.heap.size := by have := HB.out.size; simp at this; omega
  generalize w2.alloc (.cells #[.int .u32 1, .slice (some ⟨gi, 0, none⟩) 1 1, .slice (some ⟨go, 0, none⟩) 1 1, .int .u32 9] 26) = w3 at hT hI hS hO hW hb ⊢
  generalize w2.heap.size = tb at hT htg hwt ⊢
  have ct := hT.cell (j := 1) (v := .slice (some ⟨gi, 0, none⟩) 1 1) rfl
  have hI5 := (hI.alloc (.cells #[.int .u8 170] 5)).alloc (.cells #[.slice (some ⟨w3.heap.size, 0, none⟩) 1 1] 27)
  have hT5 := (hT.alloc (.cells #[.int .u8 170] 5)).alloc (.cells #[.slice (some ⟨w3.heap.size, 0, none⟩) 1 1] 27)
  have hS5 := (hS.alloc (.cells #[.int .u8 170] 5)).alloc (.cells #[.slice (some ⟨w3.heap.size, 0, none⟩) 1 1] 27)
  have hO5 := (hO.alloc (.cells #[.int .u8 170] 5)).alloc (.cells #[.slice (some ⟨w3.heap.size, 0, none⟩) 1 1] 27)
  have hW5 := (hW.alloc (.cells #[.int .u8 170] 5)).alloc (.cells #[.slice (some ⟨w3.heap.size, 0, none⟩) 1 1] 27)
  have h170 : Blk ((w3.alloc (.cells #[.int .u8 170] 5)).alloc (.cells #[.slice (some ⟨w3.heap.size, 0, none⟩) 1 1] 27)) w3.heap.size 5 [.int .u8 170] := (Blk.new w3 5 #[.int .u8 170]).alloc _
  have hwi : Blk ((w3.alloc (.cells #[.int .u8 170] 5)).alloc (.cells #[.slice (some ⟨w3.heap.size, 0, none⟩) 1 1] 27)) (w3.heap.size + 1) 27 [.slice (some ⟨w3.heap.size, 0, none⟩) 1 1] := by
    have := Blk.new (w3.alloc (.cells #[.int .u8 170] 5)) 27 #[.slice (some ⟨w3.heap.size, 0, none⟩) 1 1]
    have e : (w3.alloc (.cells #[.int .u8 170] 5)).heap.size = w3.heap.size + 1 := by simp
    rw [e] at this
    exact this
  have hb5 : Below w.heap.size w ((w3.alloc (.cells #[.int .u8 170] 5)).alloc (.cells #[.slice (some ⟨w3.heap.size, 0, none⟩) 1 1] 27)) := (hb.alloc hb.size _).alloc (by have := hb.size; simp; omega) _
  have ci := hI5.cell (j := 35) (v := .slice none 0 0) rfl
  have fi := hI5.free 35
  have H5 := Lib.hid (⟨hI5, hT5, hS5, hO5, hW5, h170, hwi⟩ : _ ∧ _ ∧ _ ∧ _ ∧ _ ∧ _ ∧ _)
  have Hb5 := Lib.hid hb5
  clear hT hI hS hO hW hb hI5 hT5 hS5 hO5 hW5 h170 hwi hb5 HI HS HO HB HGe
  go_upto_region 3 with fail
  obtain ⟨hI5, hT5, hS5, hO5, hW5, h170, hwi⟩ := H5.out
  have hI6 := hI5.set 35 (.slice (some ⟨w3.heap.size + 1, 0, none⟩) 1 1)
  rw [inV_set] at hI6
  have hT6 := hT5.other (a := ⟨gi, 35, none⟩) htg (.slice (some ⟨w3.heap.size + 1, 0, none⟩) 1 1)
  have hS6 := hS5.other (a := ⟨gi, 35, none⟩) (blk_ne hS5 hI5 (by decide)) (.slice (some ⟨w3.heap.size + 1, 0, none⟩) 1 1)
  have hO6 := hO5.other (a := ⟨gi, 35, none⟩) (blk_ne hO5 hI5 (by decide)) (.slice (some ⟨w3.heap.size + 1, 0, none⟩) 1 1)
  have hW6 := hW5.other (a := ⟨gi, 35, none⟩) (blk_ne hW5 hI5 (by decide)) (.slice (some ⟨w3.heap.size + 1, 0, none⟩) 1 1)
  have h6 := h170.other (a := ⟨gi, 35, none⟩) (blk_ne h170 hI5 (by decide)) (.slice (some ⟨w3.heap.size + 1, 0, none⟩) 1 1)
  have hw6 := hwi.other (a := ⟨gi, 35, none⟩) (blk_ne hwi hI5 (by decide)) (.slice (some ⟨w3.heap.size + 1, 0, none⟩) 1 1)
  have hb6 : Below w.heap.size w (((w3.alloc (.cells #[.int .u8 170] 5)).alloc (.cells #[.slice (some ⟨w3.heap.size, 0, none⟩) 1 1] 27)).setCell ⟨gi, 35, none⟩ (.slice (some ⟨w3.heap.size + 1, 0, none⟩) 1 1)) := Below.setCell Hb5.out (show w.heap.size ≤ gi by omega) _
  clear hI5 hT5 hS5 hO5 hW5 h170 hwi H5 Hb5 ci fi ct
  generalize ((w3.alloc (.cells #[.int .u8 170] 5)).alloc (.cells #[.slice (some ⟨w3.heap.size, 0, none⟩) 1 1] 27)).setCell ⟨gi, 35, none⟩ (.slice (some ⟨w3.heap.size + 1, 0, none⟩) 1 1) = w6 at hI6 hT6 hS6 hO6 hW6 h6 hw6 hb6 ⊢
  have t0 := hT6.cell (j := 0) rfl
  have t1 := hT6.cell (j := 1) rfl
  have t2 := hT6.cell (j := 2) rfl
  have t3 := hT6.cell (j := 3) rfl
  have c0 := hW6.cell (j := 0) rfl
  have c1 := hW6.cell (j := 1) rfl
  have c2 := hW6.cell (j := 2) rfl
  have c3 := hW6.cell (j := 3) rfl
  have f0 := hW6.free 0
  have f1 := hW6.free 1
  have f2 := hW6.free 2
  have f3 := hW6.free 3
  have e : ∀ {a : Nat} {T : TypeId} {vs : List Value}, Blk w6 a T vs → a ≠ w.heap.size → Blk (w6.setCells w.heap.size 0 [.int .u32 1, .slice (some ⟨gi, 0, none⟩) 1 1, .slice (some ⟨go, 0, none⟩) 1 1, .int .u32 9]) a T vs := fun h hne => Blk.other_setCells hne _ _ _ h
  have H7 : Hid (TxOk (w6.setCells w.heap.size 0 [.int .u32 1, .slice (some ⟨gi, 0, none⟩) 1 1, .slice (some ⟨go, 0, none⟩) 1 1, .int .u32 9]) (w6.setCells w.heap.size 0 [.int .u32 1, .slice (some ⟨gi, 0, none⟩) 1 1, .slice (some ⟨go, 0, none⟩) 1 1, .int .u32 9]).heap.size (TG [[170]]) (.slice (some ⟨gi, 0, none⟩) 1 1) (.slice (some ⟨go, 0, none⟩) 1 1)) := by
    have n6 := e h6 (blk_ne h6 hW6 (by decide))
    have nw := e hw6 (blk_ne hw6 hW6 (by decide))
    exact tg_ok (e hI6 (by omega)) ⟨_, 1, rfl, Nat.le_refl _, by omega, fun _ => ⟨_, 0, rfl, nw.lt, fun j hj => by
      have : j = 0 := by simp at hj; omega
      subst this
      exact ⟨_, nw.cell rfl, sl_one 170 n6 n6.lt⟩⟩⟩ (e hO6 (blk_ne hO6 hW6 (by decide))) (e hS6 (blk_ne hS6 hW6 (by decide)))
  have Hb7 : Hid (Below w.heap.size w (w6.setCells w.heap.size 0 [.int .u32 1, .slice (some ⟨gi, 0, none⟩) 1 1, .slice (some ⟨go, 0, none⟩) 1 1, .int .u32 9])) := below_setCells (Nat.le_refl _) _ _ _ hb6
  have H8 : Hid (Blk ((((w6.setCell ⟨w.heap.size, 0, none⟩ (.int .u32 1)).setCell ⟨w.heap.size, 1, none⟩ (.slice (some ⟨gi, 0, none⟩) 1 1)).setCell ⟨w.heap.size, 2, none⟩ (.slice (some ⟨go, 0, none⟩) 1 1)).setCell ⟨w.heap.size, 3, none⟩ (.int .u32 9)) w.heap.size 26 [.int .u32 1, .slice (some ⟨gi, 0, none⟩) 1 1, .slice (some ⟨go, 0, none⟩) 1 1, .int .u32 9]) := hW6.setCells [.int .u32 1, .slice (some ⟨gi, 0, none⟩) 1 1, .slice (some ⟨go, 0, none⟩) 1 1, .int .u32 9] rfl
  clear e hI6 hT6 hS6 hO6 hW6 h6 hw6 hb6
  go_wp2_with fail
  have d0 := H8.out.cell (j := 0) rfl
  have d1 := H8.out.cell (j := 1) rfl
  have d2 := H8.out.cell (j := 2) rfl
  have d3 := H8.out.cell (j := 3) rfl
  exact bodyPost_ret (v := vG gi go) (by simp [results, Tryd.results22, go_sem, vG, d0, d1, d2, d3]) rfl ⟨gi, go, rfl, H7.out, Hb7.out⟩
open Go.RowKit
set_option linter.unusedVariables false
set_option linter.unusedSimpArgs false
set_option maxRecDepth 100000
def XA : List (BitVec 8) := layB (TG []) false
def XB : List (BitVec 8) := layB (TG [[170]]) true
theorem XA_len : XA.length = 61 := by decide +kernel
theorem XB_len : XB.length = 66 := by decide +kernel
theorem ob_shape {w : World} {B n : Nat} {A : Option Addr} {c : Nat} {X : List (BitVec 8)} (h : OB w B (.slice A n c) X) (hp : 0 < X.length) : ∃ g, A = some ⟨g, 0, none⟩ ∧ g < w.heap.size ∧ X.length ≤ c ∧ c ≤ 9223372036854775807 ∧ Rd w w.heap.size (some ⟨g, 0, none⟩) X := by
  obtain ⟨A', cap, e, hr, h1, h2, _⟩ := h.rd
  cases e
  obtain ⟨g, rfl⟩ := h.form hp
  obtain ⟨b, o, e2, hlt, _⟩ := hr hp
  cases e2
  exact ⟨g, rfl, hlt, h1, h2, hr⟩
theorem Rd.part {w : World} {B g : Nat} {X : List (BitVec 8)} (h : Rd w B (some ⟨g, 0, none⟩) X) (a n : Nat) (hn : a + n ≤ X.length) : Rd w B (some ⟨g, a, none⟩) ((X.drop a).take n) := fun hp => by
  rw [List.length_take, List.length_drop] at hp
  obtain ⟨b, o, e, hlt, hc⟩ := h (by omega)
  cases e
  refine ⟨g, a, rfl, hlt, fun j hj => ?_⟩
  rw [List.length_take, List.length_drop] at hj
  have := hc (a + j) (by omega)
  rw [Nat.zero_add] at this
  rw [this]
  simp [List.getD, List.getElem?_take, show j < n by omega, List.getElem?_drop]
theorem ext_part {w : World} {g c : Nat} {X : List (BitVec 8)} (h : Rd w w.heap.size (some ⟨g, 0, none⟩) X) (a n c' : Nat) (hn : a + n ≤ X.length) (s : ByteArray) (hs : strB ((X.drop a).take n) = s) :
    (convert 27 9 (.slice (some ⟨g, a, none⟩) n c')).run Tryd.prog w = .ok (.string s) w :=
  conv_lit (h.part a n hn) (by rw [List.length_take, List.length_drop]; omega) s hs
def AwPost (w : World) (e : Ending) (w' : World) : Prop := e = .returned (.bool true) ∧ Below w.heap.size w w'
theorem gave_w {X : List (BitVec 8)} {n : Nat} (hn : X.length = n) (hp : 0 < n) {w : World} {e : Ending} {w' : World} (h : GavePost X w e w') :
    ∃ g c, e = .returned (.tuple #[.slice (some ⟨g, 0, none⟩) n c, .int .i64 0]) ∧ Rd w' w'.heap.size (some ⟨g, 0, none⟩) X ∧ n ≤ c ∧ c ≤ 9223372036854775807 ∧ Below w.heap.size w w' := by
  subst hn
  obtain ⟨A, c, rfl, ho, hb⟩ := h
  obtain ⟨g, rfl, _, h1, h2, hr⟩ := ob_shape ho hp
  exact ⟨g, c, rfl, hr, h1, h2, hb⟩
theorem putG (wt : List (List (BitVec 8))) (gi go : Nat) (w : World) (h : TxOk w w.heap.size (TG wt) (.slice (some ⟨gi, 0, none⟩) 1 1) (.slice (some ⟨go, 0, none⟩) 1 1)) (hc : chk (TG wt) = 0) (X : List (BitVec 8)) (hX : [] ++ layB (TG wt) (witd (TG wt)) = X) (n : Nat) (hn : X.length = n) (hp : 0 < n) :
    Calls Tryd.prog 8 #[.slice none 0 0, vG gi go] w fun e w' => ∃ g c, e = .returned (.tuple #[.slice (some ⟨g, 0, none⟩) n c, .int .i64 0]) ∧ Rd w' w'.heap.size (some ⟨g, 0, none⟩) X ∧ n ≤ c ∧ c ≤ 9223372036854775807 ∧ Below w.heap.size w w' := by
  have := Put_ok (TG wt) _ _ (.slice none 0 0) [] w h (Sl.nil _ _) (by simp) hc
  rw [hX] at this
  exact this.mono fun e w' hh => gave_w hn hp hh
set_option maxHeartbeats 4000000 in
theorem awake_any (w : World) : Calls Tryd.prog 7 #[] w (AwPost w) := by
  have KG := Lib.hid given_any
  have KW := Lib.hid witness_any
  have h5 : strB ((XA.drop 0).take 5) = { data := #[1, 0, 0, 0, 1] } := by kernel_rfl
  have h12 : strB ((XA.drop 46).take 12) = { data := #[1, 7, 0, 0, 0, 0, 0, 0, 0, 1, 81, 9] } := by kernel_rfl
  have h3 : strB ((XB.drop 4).take 3) = { data := #[0, 1, 1] } := by kernel_rfl
  have HS := Lib.hid (⟨h5, h12, h3⟩ : _ ∧ _ ∧ _)
  clear h5 h12 h3
  go_enter Tryd.func7, Tryd.ntmps7
  go_upto_region 2 with (first
    | (go_at_call 20; (refine (KG.out _).mono ?_); rintro e w1 ⟨gi, gs, go, rfl, hI, hSs, hO, _, hb1⟩; have K15 := Lib.hid (putG [] gi go w1 (tg_ok hI ⟨none, 0, rfl, Nat.le_refl _, by omega, fun h => by simp at h⟩ hO hSs) (by decide +kernel) XA rfl 61 XA_len (by omega)); have HB1 := Lib.hid hb1; clear hI hSs hO hb1; dsimp only)
    | (go_at_call 8; (refine K15.out.mono ?_); rintro e w2 ⟨g, c, rfl, hr, hc1, hc2, hb2⟩; have HR := Lib.hid hr; have HB2 : Hid (Below w.heap.size w w2) := HB1.out.trans (hb2.mono HB1.out.size); clear hr hb2 K15; dsimp only))
  go_upto_region 3 with (first
    | (go_at_call 22; (refine (KW.out _).mono ?_); rintro e w3 ⟨gj, gp, rfl, hok, hb3⟩; have K16 := Lib.hid (putG [[170]] gj gp w3 hok (by decide +kernel) XB rfl 66 XB_len (by omega)); have HB3 := Lib.hid hb3; clear hok hb3; dsimp only)
    | (go_at_call 8; (refine K16.out.mono ?_); rintro e w4 ⟨g2, d, rfl, hr2, hd1, hd2, hb4⟩; have HR2 := Lib.hid hr2; have HB4 := Lib.hid hb4; clear hr2 hb4 K16; dsimp only))
  have hr4 : Rd w4 w4.heap.size (some ⟨g, 0, none⟩) XA := ((HR.out.keep HB3.out).keep' HB4.out HB3.out.size).up (Nat.le_trans HB3.out.size HB4.out.size)
  have x5 := ext_part (c := c) hr4 0 5 c (by rw [XA_len]; omega) _ HS.out.1
  have x12 := ext_part (c := c) hr4 46 12 (c - 46) (by rw [XA_len]; omega) _ HS.out.2.1
  have x3 := ext_part (c := c) HR2.out 4 3 (d - 4) (by rw [XB_len]; omega) _ HS.out.2.2
  have HE := Lib.hid ((HB2.out.trans (HB3.out.mono HB2.out.size)).trans (HB4.out.mono (Nat.le_trans HB2.out.size HB3.out.size)))
  have n46 : ¬ c = 46 := by omega
  have n4 : ¬ d = 4 := by omega
  have i1 : (55 : Int) ≤ (c : Int) := by omega
  have i2 : (7 : Int) ≤ (d : Int) := by omega
  have i3 : (5 : Int) ≤ (c : Int) := by omega
  clear hr4
  go_wp2_with fail
  go_ret
  exact ⟨rfl, HE.out⟩
open Go.RowKit
set_option linter.unusedVariables false
set_option linter.unusedSimpArgs false
set_option maxRecDepth 100000
theorem eqIn38 (d : Nat) (X Y : List (BitVec 8)) (hX : X.length = 32) (hY : Y.length = 32) (w : World) : (Op.equalIn (d + 2) 38 (.agg (vbs X).toArray) (.agg (vbs Y).toArray)).run Tryd.prog w = .ok (decide (X = Y)) w := by
  have eX : vbs X = (X.map UInt8.ofBitVec).map Extern.Stop.cell := by simp [vbs, Extern.Stop.cell, Bt]
  have eY : vbs Y = (Y.map UInt8.ofBitVec).map Extern.Stop.cell := by simp [vbs, Extern.Stop.cell, Bt]
  have := run_equalIn_bytes (P := Tryd.prog) w d 38 5 32 Tryd.underlying38 Tryd.underlying5 (fun _ => by kernel_rfl) (X.map UInt8.ofBitVec) (Y.map UInt8.ofBitVec) (by simpa using hX) (by simpa using hY)
  rw [← eX, ← eY] at this
  rw [this]
  congr 1
  rw [Bool.eq_iff_iff]
  simp only [beq_iff_eq, decide_eq_true_eq]
  constructor
  · intro h
    have := congrArg (List.map UInt8.toBitVec) h
    simpa [List.map_map, Function.comp_def] using this
  · intro h
    rw [h]
theorem below_lit {w w1 w2 : World} {g B : Nat} (hb : Below B w w1) (hg : w1.grownBy w2 (some g)) (h : B ≤ g) (hB : B ≤ w1.heap.size) : Below B w w2 :=
  hb.grown hg hB (fun k e => by cases e; exact h)
set_option maxHeartbeats 16000000 in
theorem back_ok (t : TTx) (i o : Value) (A : Option Addr) (cap : Nat) (R : List (BitVec 8)) (w : World) (h : TxOk w w.heap.size t i o) (hR : Rd w w.heap.size A R) (hl : R.length ≤ cap) (hm : cap ≤ 9223372036854775807) (hcn : A = none → cap = 0) (hc : chk t = 0) (hG : Glob w)
    (hlg : ∀ wq, Below w.heap.size w wq → Calls Tryd.prog 6 #[txV t i o] wq (SomePost wq)) :
    Calls Tryd.prog 5 #[txV t i o, .slice A R.length cap] w (AwPost w) := by
  have h' := h
  obtain ⟨⟨A1, c1, rfl, _, _, _⟩, ⟨A2, c2, rfl, _, _, _⟩, _, _⟩ := h
  obtain ⟨n1, hn1⟩ : ∃ n, n = t.ins.length := ⟨_, rfl⟩
  obtain ⟨n2, hn2⟩ : ∃ n, n = t.outs.length := ⟨_, rfl⟩
  obtain ⟨ver, hv⟩ : ∃ n, n = t.ver := ⟨_, rfl⟩
  obtain ⟨lock, hlk⟩ : ∃ n, n = t.lock := ⟨_, rfl⟩
  have hti := h'.txIn
  obtain ⟨X1, hX1⟩ : ∃ X, X = layB t (witd t) := ⟨_, rfl⟩
  obtain ⟨X2, hX2⟩ : ∃ X, X = layB t false := ⟨_, rfl⟩
  have hX1l : X1.length ≤ 100000 := by rw [hX1]; exact lay_len _ h' hc
  have hrP : rP (some (X1 ++ R)) = (0, t, some R) := by rw [hX1]; exact rP_back t R hc hti
  obtain ⟨D1, hD1⟩ : ∃ D, D = twiceB X2 := ⟨_, rfl⟩
  obtain ⟨D2, hD2⟩ : ∃ D, D = twiceB X1 := ⟨_, rfl⟩
  have hD1l : D1.length = 32 := by rw [hD1]; exact sumB_len _
  have hD2l : D2.length = 32 := by rw [hD2]; exact sumB_len _
  have KAw := Lib.hid (fun wq => awake_any wq)
  have KL : Hid (∀ wq, Below w.heap.size w wq → Calls Tryd.prog 6 #[.agg #[.int .u32 (ver : Int), .slice A1 n1 c1, .slice A2 n2 c2, .int .u32 (lock : Int)]] wq (SomePost wq)) := fun wq hq => by
    have := hlg wq hq
    unfold txV at this
    rw [← hv, ← hlk, ← hn1, ← hn2] at this
    exact this
  have KP : Hid (∀ wq, Below w.heap.size w wq → Calls Tryd.prog 8 #[.slice none 0 0, .agg #[.int .u32 (ver : Int), .slice A1 n1 c1, .slice A2 n2 c2, .int .u32 (lock : Int)]] wq (GavePost X1 wq)) := fun wq hq => by
    have := Put_ok t _ _ (.slice none 0 0) [] wq ((h'.keep hq (Nat.le_refl _)).up hq.size) (Sl.nil _ _) (by simp) hc
    unfold txV at this
    rw [List.nil_append, ← hv, ← hlk, ← hn1, ← hn2, ← hX1] at this
    exact this
  have KI : Hid (∀ wq, Below w.heap.size w wq → Calls Tryd.prog 16 #[.agg #[.int .u32 (ver : Int), .slice A1 n1 c1, .slice A2 n2 c2, .int .u32 (lock : Int)]] wq (HashP D1 wq)) := fun wq hq => by
    have := id5_ok t _ _ wq ((h'.keep hq (Nat.le_refl _)).up hq.size) hc (hG.below hq)
    unfold txV at this
    rw [← hv, ← hlk, ← hn1, ← hn2, ← hX2, ← hD1] at this
    exact this
  have KF : Hid (∀ wq, Below w.heap.size w wq → Calls Tryd.prog 18 #[.agg #[.int .u32 (ver : Int), .slice A1 n1 c1, .slice A2 n2 c2, .int .u32 (lock : Int)]] wq (HashP D2 wq)) := fun wq hq => by
    have := full5_ok t _ _ wq ((h'.keep hq (Nat.le_refl _)).up hq.size) hc (hG.below hq)
    unfold txV at this
    rw [← hv, ← hlk, ← hn1, ← hn2, ← hX1, ← hD2] at this
    exact this
  have KIu : Hid (∀ (i o : Value) wq, Below w.heap.size w wq → TxOk wq wq.heap.size t i o → Calls Tryd.prog 16 #[txV t i o] wq (HashP D1 wq)) := fun i o wq hq hx => by
    have := id5_ok t i o wq hx hc (hG.below hq)
    rw [← hX2, ← hD1] at this
    exact this
  have KFu : Hid (∀ (i o : Value) wq, Below w.heap.size w wq → TxOk wq wq.heap.size t i o → Calls Tryd.prog 18 #[txV t i o] wq (HashP D2 wq)) := fun i o wq hq hx => by
    have := full5_ok t i o wq hx hc (hG.below hq)
    rw [← hX1, ← hD2] at this
    exact this
  have KIb : Hid (∀ (i o : Value) wq, Below w.heap.size w wq → TxOk wq wq.heap.size (bareT t) i o → Calls Tryd.prog 16 #[txV (bareT t) i o] wq (HashP D1 wq)) := fun i o wq hq hx => by
    have := id5_ok (bareT t) i o wq hx (chk_bare hc) (hG.below hq)
    rw [lay_bare, ← hX2, ← hD1] at this
    exact this
  have KFb : Hid (∀ (i o : Value) wq, Below w.heap.size w wq → TxOk wq wq.heap.size (bareT t) i o → Calls Tryd.prog 18 #[txV (bareT t) i o] wq (HashP D1 wq)) := fun i o wq hq hx => by
    have := full5_ok (bareT t) i o wq hx (chk_bare hc) (hG.below hq)
    rw [witd_bare, lay_bare, ← hX2, ← hD1] at this
    exact this
  have KS : Hid (∀ (i2 o2 : Value) wq, Below w.heap.size w wq → TxOk wq wq.heap.size t i2 o2 → Calls Tryd.prog 25 #[txV t (.slice A1 n1 c1) (.slice A2 n2 c2), txV t i2 o2] wq (BoolPost true wq)) := fun i2 o2 wq hq hx => by
    have := same_any t t _ _ i2 o2 wq ((h'.keep hq (Nat.le_refl _)).up hq.size) hx
    rw [← hn1, ← hn2] at this
    exact this.mono fun e w' ⟨a, b⟩ => ⟨by simpa using a, b⟩
  have e1 := Lib.hid (fun w => (eqIn38 9998 D1 D1 hD1l hD1l w).trans (by simp : _ = Result.ok true w))
  have e2 := Lib.hid (fun w => (eqIn38 9998 D2 D2 hD2l hD2l w).trans (by simp : _ = Result.ok true w))
  have HB : Hid (Below w.heap.size w (w.alloc (.cells #[.int .u32 (ver : Int), .slice A1 n1 c1, .slice A2 n2 c2, .int .u32 (lock : Int)] 26))) := (Below.refl _ _).alloc (Nat.le_refl _) _
  have HT := Lib.hid (tx_box (ver : Int) (lock : Int) (.slice A1 n1 c1) (.slice A2 n2 c2) w 26)
  have HR := Lib.hid hR
  have Hcn := Lib.hid hcn
  have Hti := Lib.hid hti
  have HXl := Lib.hid hX1l
  have HP := Lib.hid hrP
  have Hn1 := Lib.hid hn1
  have Hn2 := Lib.hid hn2
  have Hv := Lib.hid hv
  have Hlk := Lib.hid hlk
  have Hck := Lib.hid hc
  have hz := chk_zero hc
  have Hz := Lib.hid hz
  obtain ⟨n, hn⟩ : ∃ n, n = R.length := ⟨_, rfl⟩
  have HN := Lib.hid hn
  unfold txV
  rw [← hv, ← hlk, ← hn1, ← hn2, ← hn]
  rw [← hn] at hl
  clear h' hlg hn1 hn2 hv hlk hX1 hX2 hc hD1 hD2 hD1l hD2l hR hG hcn hn hti hX1l hrP hz
  obtain ⟨d0, d1, d2, d3⟩ := HT.out _ (SB.refl _)
  go_enter Tryd.func5, Tryd.ntmps5
  go_upto_region 1 with fail
  generalize (w.alloc (.cells #[.int .u32 (ver : Int), .slice A1 n1 c1, .slice A2 n2 c2, .int .u32 (lock : Int)] 26)) = W0 at HB HT d0 d1 d2 d3 ⊢
  have hnn : (0 : Int) ≤ (n : Int) := by omega
  by_cases hbig : 1000 < n
  · have hb1 : (1000 : Int) < (n : Int) := by omega
    go_wp2_with (first
      | (go_at_call 6; (with_reducible refine (KL.out _ HB.out).mono ?_); rintro e w1 ⟨β, rfl, hb1⟩; have HB1 := Lib.hid hb1; clear hb1; cases β <;> dsimp only)
      | (go_at_call 7; (with_reducible refine (KAw.out _).mono ?_); rintro e w2 ⟨rfl, hb2⟩; have HB2 := Lib.hid hb2; clear hb2; dsimp only))
    all_goals go_ret
    all_goals exact ⟨rfl, HB.out.trans ((HB1.out.mono HB.out.size).trans (HB2.out.mono (Nat.le_trans HB.out.size HB1.out.size)))⟩
  have hb1 : ¬ (1000 : Int) < (n : Int) := by omega
  have KL0 := Lib.hid (KL.out _ HB.out)
  go_upto_region 3 with (first
    | (go_at_call 6; (with_reducible refine KL0.out.mono ?_); rintro e w1 ⟨β, rfl, hb1⟩; have HB1 := Lib.hid hb1; obtain ⟨d0, d1, d2, d3⟩ := HT.out _ hb1; clear hb1; cases β <;> dsimp only)
    | (go_at_call 7; (with_reducible refine (KAw.out _).mono ?_); rintro e w2 ⟨rfl, hb2⟩; have HB2 := Lib.hid hb2; clear hb2; dsimp only))
  rotate_left
  · go_ret
    exact ⟨rfl, HB.out.trans ((HB1.out.mono HB.out.size).trans (HB2.out.mono (Nat.le_trans HB.out.size HB1.out.size)))⟩
  have HZ1 : Hid (SB W0 w1) := HB1
  have HW1 : Hid (Below w.heap.size w w1) := HB.out.trans (Below.mono HZ1.out HB.out.size)
  have hn1000 : n ≤ 1000 := by omega
  clear KL0 d0 d1 d2 d3
  obtain ⟨d0, d1, d2, d3⟩ := HT.out _ HZ1.out
  go_upto_region 6 with (go_at_call 8; (with_reducible refine (KP.out _ HW1.out).mono ?_); rintro e w3 ⟨A3, c3, rfl, ho3, hb3⟩; have HO3 := Lib.hid ho3; have HB3 := Lib.hid hb3; clear ho3 hb3; dsimp only)
  clear d0 d1 d2 d3
  have HW3 : Hid (Below w.heap.size w w3) := HW1.out.trans (Below.mono HB3.out HW1.out.size)
  have HZ3 : Hid (SB W0 w3) := SB.next HZ1.out HB3.out
  have HS3 : Hid (Src22 w3 A R.length (vbs R)) := src_of_rd (HR.out.keep HW3.out)
  obtain ⟨m1, hm1⟩ : ∃ m, m = X1.length := ⟨_, rfl⟩
  rw [← hm1] at HO3 ⊢
  have HM1 := Lib.hid hm1
  clear hm1
  have HS5 : Hid (Short (some (X1 ++ R)) 100000000) := fun L e => by cases e; rw [List.length_append]; have := HXl.out; have := HN.out; omega
  go_upto_region 7 with (first
    | (refine wpList_push (o := ⟨some 30, _, _, _, _, _⟩) rfl (.tmp 28) (.tmp 29) rfl rfl w1.heap.size _ X1 R rfl HO3.out A n cap rfl HN.out HS3.out Hcn.out (by have := HXl.out; have := HN.out; omega) HB3.out HB3.out.size (Nat.le_refl _) ?_; intro v5 w5 h1 h2 h3; obtain ⟨A5, c5, rfl, hr5, hc5, _, hz5⟩ := h1.rd; have HR5 := Lib.hid hr5; have HZ5' : Hid (Below w1.heap.size w1 w5) := h2; have ko := (open_any A5 (X1 ++ R) c5 w5.heap.size w5 hr5 (Nat.le_refl _) hz5 (by rw [List.length_append]; have := HXl.out; have := HN.out; omega)); rw [List.length_append] at ko; have KO := Lib.hid ko; clear ko; clear h1 h2 h3 hr5 hc5 hz5)
    | (go_at_call 26; go_loud ((with_reducible refine KO.out.mono ?_); rintro e w6 ⟨g, rfl, hi6, hg1, hg2, hb6⟩; have HI6 := Lib.hid hi6; have HG1 := Lib.hid hg1; have HG2 := Lib.hid hg2; have HB6 := Lib.hid hb6; clear hi6 hg1 hg2 hb6 KO; dsimp only)))
  have HW5 : Hid (Below w.heap.size w w5) := HW1.out.trans (Below.mono HZ5'.out HW1.out.size)
  have HW6 : Hid (Below w.heap.size w w6) := HW5.out.trans (Below.mono HB6.out HW5.out.size)
  have HZ6 : Hid (SB W0 w6) := SB.trans HZ1.out (SB.trans HZ5'.out HB6.out)
  have K24 : Hid (Calls Tryd.prog 24 #[ptr (some g)] w6 (ParsePost (0, t, some R) (g + 1) (some g) w6)) := by
    have := parse_any (some g) (some (X1 ++ R)) (g + 1) w6 HI6.out (by have := HG2.out; omega) HS5.out
    rw [HP.out] at this
    exact this
  go_upto_region 8 with (go_at_call 24; go_loud ((with_reducible refine K24.out.mono ?_); rintro e w7 ⟨i, o, rfl, hok, _, hi7, hg7⟩; have htn := hok rfl; obtain ⟨ib, ob, hie, hoe, _⟩ := id htn; dsimp only at hie hoe; rw [← Hn1.out] at hie; rw [← Hn2.out] at hoe; subst hie hoe; have HTN := Lib.hid htn; have HI7 := Lib.hid hi7; have HG7 := Lib.hid hg7; clear hok htn hi7 hg7 K24; dsimp only [txV]; rw [← Hv.out, ← Hlk.out]))
  have HW7 : Hid (Below w.heap.size w w7) := below_lit HW6.out HG7.out (by have := HG1.out; have := HW5.out.size; omega) HW6.out.size
  have hZ7 : SB W0 w7 := below_lit (w1 := w6) HZ6.out HG7.out (by have := HG1.out; have := Below.size HZ5'.out; have := SB.size HZ1.out; omega) (SB.size HZ6.out)
  have hbw : Below w7.heap.size w7 (w7.alloc (.cells #[.int .u32 (ver : Int), .slice (some ⟨ib, 0, none⟩) n1 n1, .slice (some ⟨ob, 0, none⟩) n2 n2, .int .u32 (lock : Int)] 26)) := (Below.refl _ _).alloc (Nat.le_refl _) _
  have HZ8 : Hid (SB W0 (w7.alloc (.cells #[.int .u32 (ver : Int), .slice (some ⟨ib, 0, none⟩) n1 n1, .slice (some ⟨ob, 0, none⟩) n2 n2, .int .u32 (lock : Int)] 26))) := SB.next hZ7 hbw
  have HW8 : Hid (Below w.heap.size w (w7.alloc (.cells #[.int .u32 (ver : Int), .slice (some ⟨ib, 0, none⟩) n1 n1, .slice (some ⟨ob, 0, none⟩) n2 n2, .int .u32 (lock : Int)] 26))) := HW7.out.trans (hbw.mono HW7.out.size)
  have HI8 : Hid (IsR (w7.alloc (.cells #[.int .u32 (ver : Int), .slice (some ⟨ib, 0, none⟩) n1 n1, .slice (some ⟨ob, 0, none⟩) n2 n2, .int .u32 (lock : Int)] 26)) (g + 1) (some g) (some R)) := HI7.out.below hbw (by have := HG2.out; have := HG7.out.size; omega)
  have HN8 : Hid (TxN (w7.alloc (.cells #[.int .u32 (ver : Int), .slice (some ⟨ib, 0, none⟩) n1 n1, .slice (some ⟨ob, 0, none⟩) n2 n2, .int .u32 (lock : Int)] 26)) t (.slice (some ⟨ib, 0, none⟩) n1 n1) (.slice (some ⟨ob, 0, none⟩) n2 n2)) := HTN.out.below hbw
  have HU8 : Hid (Blk (w7.alloc (.cells #[.int .u32 (ver : Int), .slice (some ⟨ib, 0, none⟩) n1 n1, .slice (some ⟨ob, 0, none⟩) n2 n2, .int .u32 (lock : Int)] 26)) w7.heap.size 26 [.int .u32 (ver : Int), .slice (some ⟨ib, 0, none⟩) n1 n1, .slice (some ⟨ob, 0, none⟩) n2 n2, .int .u32 (lock : Int)]) := Blk.new w7 26 #[.int .u32 (ver : Int), .slice (some ⟨ib, 0, none⟩) n1 n1, .slice (some ⟨ob, 0, none⟩) n2 n2, .int .u32 (lock : Int)]
  have HGl : Hid (g + 1 ≤ (w7.alloc (.cells #[.int .u32 (ver : Int), .slice (some ⟨ib, 0, none⟩) n1 n1, .slice (some ⟨ob, 0, none⟩) n2 n2, .int .u32 (lock : Int)] 26)).heap.size) := Nat.le_trans (show g + 1 ≤ w7.heap.size by have := HG2.out; have := HG7.out.size; omega) hbw.size
  obtain ⟨ub, hub⟩ : ∃ b, b = w7.heap.size := ⟨_, rfl⟩
  rw [← hub] at HU8 ⊢
  clear hbw hub hZ7 HI7 HTN
  generalize (w7.alloc (.cells #[.int .u32 (ver : Int), .slice (some ⟨ib, 0, none⟩) n1 n1, .slice (some ⟨ob, 0, none⟩) n2 n2, .int .u32 (lock : Int)] 26)) = W8 at HZ8 HW8 HI8 HN8 HU8 HGl ⊢
  have HUlt : Hid (ub < W8.heap.size) := HU8.out.lt
  generalize hWd : W8.drew = Wd
  have HD8 : Hid (SB W8 Wd) := (hWd ▸ SB.drew W8 : SB W8 Wd)
  refine wp_region_but (z := 999) (SB Wd) (by kernel_rfl) ?_
  rw [hWd]
  have hS : SB Wd Wd := SB.refl Wd
  clear hWd
  have HSd : Hid (SB Wd Wd) := hS
  have BW : Hid (∀ wq, SB W8 wq → Below w.heap.size w wq) := fun wq hq => HW8.out.trans (Below.mono hq HW8.out.size)
  have KSu : Hid (∀ wq, SB W8 wq → Calls Tryd.prog 25 #[.agg #[.int .u32 (ver : Int), .slice A1 n1 c1, .slice A2 n2 c2, .int .u32 (lock : Int)], .agg #[.int .u32 (ver : Int), .slice (some ⟨ib, 0, none⟩) n1 n1, .slice (some ⟨ob, 0, none⟩) n2 n2, .int .u32 (lock : Int)]] wq (BoolPost true wq)) := fun wq hq => by
    have := KS.out _ _ wq (BW.out wq hq) (HN8.out.below hq).ok
    unfold txV at this
    rw [← Hv.out, ← Hlk.out] at this
    exact this
  have KIv : Hid (∀ wq, SB W8 wq → Calls Tryd.prog 16 #[.agg #[.int .u32 (ver : Int), .slice (some ⟨ib, 0, none⟩) n1 n1, .slice (some ⟨ob, 0, none⟩) n2 n2, .int .u32 (lock : Int)]] wq (HashP D1 wq)) := fun wq hq => by
    have := KIu.out _ _ wq (BW.out wq hq) (HN8.out.below hq).ok
    unfold txV at this
    rw [← Hv.out, ← Hlk.out] at this
    exact this
  have KFv : Hid (∀ wq, SB W8 wq → Calls Tryd.prog 18 #[.agg #[.int .u32 (ver : Int), .slice (some ⟨ib, 0, none⟩) n1 n1, .slice (some ⟨ob, 0, none⟩) n2 n2, .int .u32 (lock : Int)]] wq (HashP D2 wq)) := fun wq hq => by
    have := KFu.out _ _ wq (BW.out wq hq) (HN8.out.below hq).ok
    unfold txV at this
    rw [← Hv.out, ← Hlk.out] at this
    exact this
  have KLf : Hid (∀ wq, SB W8 wq → Calls Tryd.prog 27 #[ptr (some g)] wq fun e w' => e = .returned (.int .i64 (n : Int)) ∧ Below wq.heap.size wq w') := fun wq hq => by
    have := left_any (some g) (some R) (g + 1) wq (HI8.out.below hq HGl.out)
    rw [show leftS (some R) = n from HN.out.symm] at this
    exact this.mono fun e w' ⟨a, b⟩ => ⟨a, b ▸ Below.refl _ _⟩
  refine AnyBut.takeE (i := 0) (v := ?_) rfl (by kernel_rfl) (by kernel_rfl) (by kernel_rfl) (by kernel_rfl) (fun _ _ _ h => h) (Or.inl ⟨by rfl, ?_⟩) hS ?_
  rotate_left
  · (intro wq hq; go_simp; try with_reducible rfl)
  try simp only [Act.put, List.setIfInBounds_toArray, List.set_cons_zero, List.set_cons_succ, List.getElem_toArray, List.getElem_cons_zero, List.getElem_cons_succ]
  refine AnyBut.takeE (i := 1) (v := ?_) rfl (by kernel_rfl) (by kernel_rfl) (by kernel_rfl) (by kernel_rfl) (fun _ _ _ h => h) (Or.inl ⟨by rfl, ?_⟩) hS ?_
  rotate_left
  · (intro wq hq; go_simp; try with_reducible rfl)
  try simp only [Act.put, List.setIfInBounds_toArray, List.set_cons_zero, List.set_cons_succ, List.getElem_toArray, List.getElem_cons_zero, List.getElem_cons_succ]
  refine AnyBut.takeE (i := 2) (v := ?_) rfl (by kernel_rfl) (by kernel_rfl) (by kernel_rfl) (by kernel_rfl) (fun _ _ _ h => h) (Or.inl ⟨by rfl, ?_⟩) hS ?_
  rotate_left
  · (intro wq hq; go_simp; try with_reducible rfl)
  try simp only [Act.put, List.setIfInBounds_toArray, List.set_cons_zero, List.set_cons_succ, List.getElem_toArray, List.getElem_cons_zero, List.getElem_cons_succ]
  refine AnyBut.takeE (i := 3) (v := .agg #[.int .u32 (ver : Int), .slice A1 n1 c1, .slice A2 n2 c2, .int .u32 (lock : Int)]) rfl (by kernel_rfl) (by kernel_rfl) (by kernel_rfl) (by kernel_rfl) (fun _ _ _ h => h) (Or.inl ⟨by rfl, ?_⟩) hS ?_
  · intro wq hq
    obtain ⟨dq0, dq1, dq2, dq3⟩ := HT.out wq (SB.trans HZ8.out (SB.trans HD8.out (SB.trans HSd.out hq)))
    go_simp
  try simp only [Act.put, List.setIfInBounds_toArray, List.set_cons_zero, List.set_cons_succ, List.getElem_toArray, List.getElem_cons_zero, List.getElem_cons_succ]
  refine AnyBut.takeE (i := 4) (v := .agg #[.int .u32 (ver : Int), .slice (some ⟨ib, 0, none⟩) n1 n1, .slice (some ⟨ob, 0, none⟩) n2 n2, .int .u32 (lock : Int)]) rfl (by kernel_rfl) (by kernel_rfl) (by kernel_rfl) (by kernel_rfl) (fun _ _ _ h => h) (Or.inl ⟨by rfl, ?_⟩) hS ?_
  · intro wq hq
    have hbq := HU8.out.below (show Below W8.heap.size W8 wq from (SB.trans HD8.out (SB.trans HSd.out hq))) HU8.out.lt
    have dq0 := hbq.cell (j := 0) rfl
    have dq1 := hbq.cell (j := 1) rfl
    have dq2 := hbq.cell (j := 2) rfl
    have dq3 := hbq.cell (j := 3) rfl
    go_simp
  try simp only [Act.put, List.setIfInBounds_toArray, List.set_cons_zero, List.set_cons_succ, List.getElem_toArray, List.getElem_cons_zero, List.getElem_cons_succ]
  refine AnyBut.gone (i := 5) (by kernel_rfl) rfl (by rfl) (fun K hK => ?_)
  go_simp
  (with_reducible refine (KSu.out _ (SB.trans HD8.out HSd.out)).mono ?_)
  rintro e w11 ⟨rfl, hb⟩
  have hS11 : SB Wd w11 := SB.next hS hb
  have HS11 := Lib.hid hS11
  have HBl11 := Lib.hid hb
  clear hb
  dsimp only
  refine hK _ _ (fun _ => hS11) ?_
  clear hK K hS
  try simp only [Act.put, List.setIfInBounds_toArray, List.set_cons_zero, List.set_cons_succ, List.getElem_toArray, List.getElem_cons_zero, List.getElem_cons_succ]
  refine AnyBut.stronger (S' := SB w11) (fun _ h => Below.trans hS11 (Below.mono h hS11.size)) ?_
  clear hS11
  have hS : SB w11 w11 := SB.refl w11
  have HX11 : Hid (SB Wd w11) := SB.trans HSd.out HS11.out
  refine AnyBut.takeE (i := 6) (v := ?_) rfl (by kernel_rfl) (by kernel_rfl) (by kernel_rfl) (by kernel_rfl) (fun _ _ _ h => h) (Or.inl ⟨by rfl, ?_⟩) hS ?_
  rotate_left
  · (intro wq hq; go_simp; try with_reducible rfl)
  try simp only [Act.put, List.setIfInBounds_toArray, List.set_cons_zero, List.set_cons_succ, List.getElem_toArray, List.getElem_cons_zero, List.getElem_cons_succ]
  refine AnyBut.takeE (i := 7) (v := ?_) rfl (by kernel_rfl) (by kernel_rfl) (by kernel_rfl) (by kernel_rfl) (fun _ _ _ h => h) (Or.inl ⟨by rfl, ?_⟩) hS ?_
  rotate_left
  · (intro wq hq; go_simp; try with_reducible rfl)
  try simp only [Act.put, List.setIfInBounds_toArray, List.set_cons_zero, List.set_cons_succ, List.getElem_toArray, List.getElem_cons_zero, List.getElem_cons_succ]
  refine AnyBut.takeE (i := 8) (v := ?_) rfl (by kernel_rfl) (by kernel_rfl) (by kernel_rfl) (by kernel_rfl) (fun _ _ _ h => h) (Or.inl ⟨by rfl, ?_⟩) hS ?_
  rotate_left
  · (intro wq hq; go_simp; try with_reducible rfl)
  try simp only [Act.put, List.setIfInBounds_toArray, List.set_cons_zero, List.set_cons_succ, List.getElem_toArray, List.getElem_cons_zero, List.getElem_cons_succ]
  refine AnyBut.takeE (i := 9) (v := ?_) rfl (by kernel_rfl) (by kernel_rfl) (by kernel_rfl) (by kernel_rfl) (fun _ _ _ h => h) (Or.inl ⟨by rfl, ?_⟩) hS ?_
  rotate_left
  · (intro wq hq; go_simp; try with_reducible rfl)
  try simp only [Act.put, List.setIfInBounds_toArray, List.set_cons_zero, List.set_cons_succ, List.getElem_toArray, List.getElem_cons_zero, List.getElem_cons_succ]
  refine AnyBut.takeE (i := 11) (v := ?_) rfl (by kernel_rfl) (by kernel_rfl) (by kernel_rfl) (by kernel_rfl) (fun _ _ _ h => h) (Or.inl ⟨by rfl, ?_⟩) hS ?_
  rotate_left
  · (intro wq hq; go_simp; try with_reducible rfl)
  try simp only [Act.put, List.setIfInBounds_toArray, List.set_cons_zero, List.set_cons_succ, List.getElem_toArray, List.getElem_cons_zero, List.getElem_cons_succ]
  refine AnyBut.takeE (i := 12) (v := ?_) rfl (by kernel_rfl) (by kernel_rfl) (by kernel_rfl) (by kernel_rfl) (fun _ _ _ h => h) (Or.inl ⟨by rfl, ?_⟩) hS ?_
  rotate_left
  · (intro wq hq; go_simp; try with_reducible rfl)
  try simp only [Act.put, List.setIfInBounds_toArray, List.set_cons_zero, List.set_cons_succ, List.getElem_toArray, List.getElem_cons_zero, List.getElem_cons_succ]
  refine AnyBut.gone (i := 10) (by kernel_rfl) rfl (by rfl) (fun K hK => ?_)
  go_simp
  (with_reducible refine (KLf.out _ (SB.trans HD8.out HX11.out)).mono ?_)
  rintro e w12 ⟨rfl, hb⟩
  have hS12 : SB w11 w12 := SB.next hS hb
  have HS12 := Lib.hid hS12
  have HBl12 := Lib.hid hb
  clear hb
  dsimp only
  refine hK _ _ (fun _ => hS12) ?_
  clear hK K hS
  try simp only [Act.put, List.setIfInBounds_toArray, List.set_cons_zero, List.set_cons_succ, List.getElem_toArray, List.getElem_cons_zero, List.getElem_cons_succ]
  refine AnyBut.stronger (S' := SB w12) (fun _ h => Below.trans hS12 (Below.mono h hS12.size)) ?_
  clear hS12
  have hS : SB w12 w12 := SB.refl w12
  have HX12 : Hid (SB Wd w12) := SB.trans HX11.out HS12.out
  refine AnyBut.takeE (i := 13) (v := .bool false) rfl (by kernel_rfl) (by kernel_rfl) (by kernel_rfl) (by kernel_rfl) (fun _ _ _ h => h) (Or.inl ⟨by rfl, ?_⟩) hS ?_
  · intro wq hq
    have hbq : ((n : Int) != (n : Int)) = false := by simp
    go_simp
  try simp only [Act.put, List.setIfInBounds_toArray, List.set_cons_zero, List.set_cons_succ, List.getElem_toArray, List.getElem_cons_zero, List.getElem_cons_succ]
  refine AnyBut.takeE (i := 14) (v := ?_) rfl (by kernel_rfl) (by kernel_rfl) (by kernel_rfl) (by kernel_rfl) (fun _ _ _ h => h) (Or.inl ⟨by rfl, ?_⟩) hS ?_
  rotate_left
  · (intro wq hq; go_simp; try with_reducible rfl)
  try simp only [Act.put, List.setIfInBounds_toArray, List.set_cons_zero, List.set_cons_succ, List.getElem_toArray, List.getElem_cons_zero, List.getElem_cons_succ]
  refine AnyBut.takeE (i := 15) (v := ?_) rfl (by kernel_rfl) (by kernel_rfl) (by kernel_rfl) (by kernel_rfl) (fun _ _ _ h => h) (Or.inl ⟨by rfl, ?_⟩) hS ?_
  rotate_left
  · (intro wq hq; go_simp; try with_reducible rfl)
  try simp only [Act.put, List.setIfInBounds_toArray, List.set_cons_zero, List.set_cons_succ, List.getElem_toArray, List.getElem_cons_zero, List.getElem_cons_succ]
  refine AnyBut.takeE (i := 16) (v := .agg #[.int .u32 (ver : Int), .slice (some ⟨ib, 0, none⟩) n1 n1, .slice (some ⟨ob, 0, none⟩) n2 n2, .int .u32 (lock : Int)]) rfl (by kernel_rfl) (by kernel_rfl) (by kernel_rfl) (by kernel_rfl) (fun _ _ _ h => h) (Or.inl ⟨by rfl, ?_⟩) hS ?_
  · intro wq hq
    have hbq := HU8.out.below (show Below W8.heap.size W8 wq from (SB.trans HD8.out (SB.trans HX12.out hq))) HU8.out.lt
    have dq0 := hbq.cell (j := 0) rfl
    have dq1 := hbq.cell (j := 1) rfl
    have dq2 := hbq.cell (j := 2) rfl
    have dq3 := hbq.cell (j := 3) rfl
    go_simp
  try simp only [Act.put, List.setIfInBounds_toArray, List.set_cons_zero, List.set_cons_succ, List.getElem_toArray, List.getElem_cons_zero, List.getElem_cons_succ]
  refine AnyBut.takeE (i := 18) (v := .agg #[.int .u32 (ver : Int), .slice A1 n1 c1, .slice A2 n2 c2, .int .u32 (lock : Int)]) rfl (by kernel_rfl) (by kernel_rfl) (by kernel_rfl) (by kernel_rfl) (fun _ _ _ h => h) (Or.inl ⟨by rfl, ?_⟩) hS ?_
  · intro wq hq
    obtain ⟨dq0, dq1, dq2, dq3⟩ := HT.out wq (SB.trans HZ8.out (SB.trans HD8.out (SB.trans HX12.out hq)))
    go_simp
  try simp only [Act.put, List.setIfInBounds_toArray, List.set_cons_zero, List.set_cons_succ, List.getElem_toArray, List.getElem_cons_zero, List.getElem_cons_succ]
  refine AnyBut.gone (i := 17) (by kernel_rfl) rfl (by rfl) (fun K hK => ?_)
  go_simp
  (with_reducible refine (KIv.out _ (SB.trans HD8.out HX12.out)).mono ?_)
  rintro e w13 ⟨rfl, hb⟩
  have hS13 : SB w12 w13 := SB.next hS hb
  have HS13 := Lib.hid hS13
  have HBl13 := Lib.hid hb
  clear hb
  dsimp only
  refine hK _ _ (fun _ => hS13) ?_
  clear hK K hS
  try simp only [Act.put, List.setIfInBounds_toArray, List.set_cons_zero, List.set_cons_succ, List.getElem_toArray, List.getElem_cons_zero, List.getElem_cons_succ]
  refine AnyBut.stronger (S' := SB w13) (fun _ h => Below.trans hS13 (Below.mono h hS13.size)) ?_
  clear hS13
  have hS : SB w13 w13 := SB.refl w13
  have HX13 : Hid (SB Wd w13) := SB.trans HX12.out HS13.out
  refine AnyBut.gone (i := 19) (by kernel_rfl) rfl (by rfl) (fun K hK => ?_)
  go_simp
  (with_reducible refine (KI.out _ (BW.out _ (SB.trans HD8.out HX13.out))).mono ?_)
  rintro e w14 ⟨rfl, hb⟩
  have hS14 : SB w13 w14 := SB.next hS hb
  have HS14 := Lib.hid hS14
  have HBl14 := Lib.hid hb
  clear hb
  dsimp only
  refine hK _ _ (fun _ => hS14) ?_
  clear hK K hS
  try simp only [Act.put, List.setIfInBounds_toArray, List.set_cons_zero, List.set_cons_succ, List.getElem_toArray, List.getElem_cons_zero, List.getElem_cons_succ]
  refine AnyBut.stronger (S' := SB w14) (fun _ h => Below.trans hS14 (Below.mono h hS14.size)) ?_
  clear hS14
  have hS : SB w14 w14 := SB.refl w14
  have HX14 : Hid (SB Wd w14) := SB.trans HX13.out HS14.out
  refine AnyBut.takeE (i := 20) (v := .bool false) rfl (by kernel_rfl) (by kernel_rfl) (by kernel_rfl) (by kernel_rfl) (fun _ _ _ h => h) (Or.inl ⟨by rfl, ?_⟩) hS ?_
  · intro wq hq
    have he := e1.out wq
    go_simp
  try simp only [Act.put, List.setIfInBounds_toArray, List.set_cons_zero, List.set_cons_succ, List.getElem_toArray, List.getElem_cons_zero, List.getElem_cons_succ]
  refine AnyBut.takeE (i := 21) (v := ?_) rfl (by kernel_rfl) (by kernel_rfl) (by kernel_rfl) (by kernel_rfl) (fun _ _ _ h => h) (Or.inl ⟨by rfl, ?_⟩) hS ?_
  rotate_left
  · (intro wq hq; go_simp; try with_reducible rfl)
  try simp only [Act.put, List.setIfInBounds_toArray, List.set_cons_zero, List.set_cons_succ, List.getElem_toArray, List.getElem_cons_zero, List.getElem_cons_succ]
  refine AnyBut.takeE (i := 22) (v := ?_) rfl (by kernel_rfl) (by kernel_rfl) (by kernel_rfl) (by kernel_rfl) (fun _ _ _ h => h) (Or.inl ⟨by rfl, ?_⟩) hS ?_
  rotate_left
  · (intro wq hq; go_simp; try with_reducible rfl)
  try simp only [Act.put, List.setIfInBounds_toArray, List.set_cons_zero, List.set_cons_succ, List.getElem_toArray, List.getElem_cons_zero, List.getElem_cons_succ]
  refine AnyBut.takeE (i := 23) (v := .agg #[.int .u32 (ver : Int), .slice (some ⟨ib, 0, none⟩) n1 n1, .slice (some ⟨ob, 0, none⟩) n2 n2, .int .u32 (lock : Int)]) rfl (by kernel_rfl) (by kernel_rfl) (by kernel_rfl) (by kernel_rfl) (fun _ _ _ h => h) (Or.inl ⟨by rfl, ?_⟩) hS ?_
  · intro wq hq
    have hbq := HU8.out.below (show Below W8.heap.size W8 wq from (SB.trans HD8.out (SB.trans HX14.out hq))) HU8.out.lt
    have dq0 := hbq.cell (j := 0) rfl
    have dq1 := hbq.cell (j := 1) rfl
    have dq2 := hbq.cell (j := 2) rfl
    have dq3 := hbq.cell (j := 3) rfl
    go_simp
  try simp only [Act.put, List.setIfInBounds_toArray, List.set_cons_zero, List.set_cons_succ, List.getElem_toArray, List.getElem_cons_zero, List.getElem_cons_succ]
  refine AnyBut.takeE (i := 25) (v := .agg #[.int .u32 (ver : Int), .slice A1 n1 c1, .slice A2 n2 c2, .int .u32 (lock : Int)]) rfl (by kernel_rfl) (by kernel_rfl) (by kernel_rfl) (by kernel_rfl) (fun _ _ _ h => h) (Or.inl ⟨by rfl, ?_⟩) hS ?_
  · intro wq hq
    obtain ⟨dq0, dq1, dq2, dq3⟩ := HT.out wq (SB.trans HZ8.out (SB.trans HD8.out (SB.trans HX14.out hq)))
    go_simp
  try simp only [Act.put, List.setIfInBounds_toArray, List.set_cons_zero, List.set_cons_succ, List.getElem_toArray, List.getElem_cons_zero, List.getElem_cons_succ]
  refine AnyBut.gone (i := 24) (by kernel_rfl) rfl (by rfl) (fun K hK => ?_)
  go_simp
  (with_reducible refine (KFv.out _ (SB.trans HD8.out HX14.out)).mono ?_)
  rintro e w15 ⟨rfl, hb⟩
  have hS15 : SB w14 w15 := SB.next hS hb
  have HS15 := Lib.hid hS15
  have HBl15 := Lib.hid hb
  clear hb
  dsimp only
  refine hK _ _ (fun _ => hS15) ?_
  clear hK K hS
  try simp only [Act.put, List.setIfInBounds_toArray, List.set_cons_zero, List.set_cons_succ, List.getElem_toArray, List.getElem_cons_zero, List.getElem_cons_succ]
  refine AnyBut.stronger (S' := SB w15) (fun _ h => Below.trans hS15 (Below.mono h hS15.size)) ?_
  clear hS15
  have hS : SB w15 w15 := SB.refl w15
  have HX15 : Hid (SB Wd w15) := SB.trans HX14.out HS15.out
  refine AnyBut.gone (i := 26) (by kernel_rfl) rfl (by rfl) (fun K hK => ?_)
  go_simp
  (with_reducible refine (KF.out _ (BW.out _ (SB.trans HD8.out HX15.out))).mono ?_)
  rintro e w16 ⟨rfl, hb⟩
  have hS16 : SB w15 w16 := SB.next hS hb
  have HS16 := Lib.hid hS16
  have HBl16 := Lib.hid hb
  clear hb
  dsimp only
  refine hK _ _ (fun _ => hS16) ?_
  clear hK K hS
  try simp only [Act.put, List.setIfInBounds_toArray, List.set_cons_zero, List.set_cons_succ, List.getElem_toArray, List.getElem_cons_zero, List.getElem_cons_succ]
  refine AnyBut.stronger (S' := SB w16) (fun _ h => Below.trans hS16 (Below.mono h hS16.size)) ?_
  clear hS16
  have hS : SB w16 w16 := SB.refl w16
  have HX16 : Hid (SB Wd w16) := SB.trans HX15.out HS16.out
  refine AnyBut.takeE (i := 27) (v := .bool false) rfl (by kernel_rfl) (by kernel_rfl) (by kernel_rfl) (by kernel_rfl) (fun _ _ _ h => h) (Or.inl ⟨by rfl, ?_⟩) hS ?_
  · intro wq hq
    have he := e2.out wq
    go_simp
  try simp only [Act.put, List.setIfInBounds_toArray, List.set_cons_zero, List.set_cons_succ, List.getElem_toArray, List.getElem_cons_zero, List.getElem_cons_succ]
  refine AnyBut.gone (i := 28) (by kernel_rfl) rfl (by rfl) (fun K hK => ?_)
  go_simp
  refine hK _ _ (fun _ => hS) ?_
  clear hK K
  refine AnyBut.done (by kernel_rfl) ?_ _
  try dsimp only [Exit.then]
  clear hS
  have HZ16 : Hid (SB W8 w16) := SB.trans HD8.out HX16.out
  have HU16 : Hid (Blk w16 ub 26 [.int .u32 (ver : Int), .slice (some ⟨ib, 0, none⟩) n1 n1, .slice (some ⟨ob, 0, none⟩) n2 n2, .int .u32 (lock : Int)]) := HU8.out.below (show Below W8.heap.size W8 w16 from HZ16.out) HU8.out.lt
  have HN16 : Hid (TxN w16 t (.slice (some ⟨ib, 0, none⟩) n1 n1) (.slice (some ⟨ob, 0, none⟩) n2 n2)) := HN8.out.below HZ16.out
  have HW16 : Hid (Below w.heap.size w w16) := BW.out _ HZ16.out
  have HY16 : Hid (SB W0 w16) := SB.trans HZ8.out HZ16.out
  clear HX11 HX12 HX13 HX14 HX15 HX16 HS11 HS12 HS13 HS14 HS15 HS16 HBl11 HBl12 HBl13 HBl14 HBl15 HBl16 HSd HD8 KSu KIv KFv KLf BW HU8 HN8 HI8 HGl HUlt KIu KFu KS KF
  have c0 := HU16.out.cell (j := 0) rfl
  have c1' := HU16.out.cell (j := 1) rfl
  have c2' := HU16.out.cell (j := 2) rfl
  have c3' := HU16.out.cell (j := 3) rfl
  go_upto_region 11 with fail
  obtain ⟨vs, hvs, hbv⟩ : Rd1 w16 ib t.ins := by obtain ⟨ib', ob', e1, e2, a, _⟩ := HN16.out; cases e1; exact a
  have hvl : vs.length = 36 * n1 := by rw [Hn1.out]; exact hvs.len fun x hx => (Hti.out.1 x hx).1
  have hbw : Below w16.heap.size w16 (w16.alloc (.cells #[.int .u32 (ver : Int), .slice (some ⟨ib, 0, none⟩) n1 n1, .slice (some ⟨ob, 0, none⟩) n2 n2, .int .u32 (lock : Int)] 26)) := (Below.refl _ _).alloc (Nat.le_refl _) _
  have HB17 : Hid (Below w16.heap.size w16 (w16.alloc (.cells #[.int .u32 (ver : Int), .slice (some ⟨ib, 0, none⟩) n1 n1, .slice (some ⟨ob, 0, none⟩) n2 n2, .int .u32 (lock : Int)] 26))) := hbw
  have HX17 : Hid (Blk (w16.alloc (.cells #[.int .u32 (ver : Int), .slice (some ⟨ib, 0, none⟩) n1 n1, .slice (some ⟨ob, 0, none⟩) n2 n2, .int .u32 (lock : Int)] 26)) w16.heap.size 26 [.int .u32 (ver : Int), .slice (some ⟨ib, 0, none⟩) n1 n1, .slice (some ⟨ob, 0, none⟩) n2 n2, .int .u32 (lock : Int)]) := Blk.new w16 26 #[.int .u32 (ver : Int), .slice (some ⟨ib, 0, none⟩) n1 n1, .slice (some ⟨ob, 0, none⟩) n2 n2, .int .u32 (lock : Int)]
  have HU17 : Hid (Blk (w16.alloc (.cells #[.int .u32 (ver : Int), .slice (some ⟨ib, 0, none⟩) n1 n1, .slice (some ⟨ob, 0, none⟩) n2 n2, .int .u32 (lock : Int)] 26)) ub 26 [.int .u32 (ver : Int), .slice (some ⟨ib, 0, none⟩) n1 n1, .slice (some ⟨ob, 0, none⟩) n2 n2, .int .u32 (lock : Int)]) := HU16.out.alloc _
  have HV17 : Hid (Blk (w16.alloc (.cells #[.int .u32 (ver : Int), .slice (some ⟨ib, 0, none⟩) n1 n1, .slice (some ⟨ob, 0, none⟩) n2 n2, .int .u32 (lock : Int)] 26)) ib 57 vs) := hbv.alloc _
  have HVs := Lib.hid hvs
  have HVl := Lib.hid hvl
  have HV1 := Lib.hid hvs.ones
  obtain ⟨xb, hxb⟩ : ∃ b, b = w16.heap.size := ⟨_, rfl⟩
  have HXb := Lib.hid hxb
  rw [← hxb] at HX17 ⊢
  clear hbw hvs hbv hvl hxb c0 c1' c2' c3'
  generalize (w16.alloc (.cells #[.int .u32 (ver : Int), .slice (some ⟨ib, 0, none⟩) n1 n1, .slice (some ⟨ob, 0, none⟩) n2 n2, .int .u32 (lock : Int)] 26)) = W17 at HB17 HX17 HU17 HV17 ⊢
  have HE := Lib.hid (show (W17.alloc (.cells #[] 57)).ownsRow W17.heap.size 57 36 (.slice (some ⟨W17.heap.size, 0, none⟩) 0 0) 0 [] from World.ownsRow_made W17 #[] 0 (Nat.le_refl _) (by unfold maxLen; omega) rfl)
  have c1' := (HU17.out.alloc (.cells #[] 57)).cell (j := 1) rfl
  have HV18 : Hid (Blk (W17.alloc (.cells #[] 57)) ib 57 vs) := HV17.out.alloc _
  have HX18 : Hid (Blk (W17.alloc (.cells #[] 57)) xb 26 [.int .u32 (ver : Int), .slice (some ⟨ib, 0, none⟩) n1 n1, .slice (some ⟨ob, 0, none⟩) n2 n2, .int .u32 (lock : Int)]) := HX17.out.alloc _
  have HB18 : Hid (Below w16.heap.size w16 (W17.alloc (.cells #[] 57))) := HB17.out.trans (((Below.refl _ _).alloc (Nat.le_refl _) _).mono HB17.out.size)
  have hn0 : 0 < n1 := by rw [Hn1.out]; exact Hz.out.2.2.2.2.2.1
  have hn16 : n1 ≤ 16 := by rw [Hn1.out]; exact Hz.out.1
  have Hn0 := Lib.hid (⟨hn0, hn16⟩ : _ ∧ _)
  clear hn0 hn16
  have HS17 : Hid (W17.heap.size ≤ (W17.alloc (.cells #[] 57)).heap.size) := ((Below.refl W17.heap.size W17).alloc (Nat.le_refl _) (.cells #[] 57)).size
  go_upto_region 12 with (refine wpList_appI (o := ⟨some 70, _, _, _, _, _⟩) rfl (.tmp 67) (.tmp 69) rfl rfl W17.heap.size ib n1 n1 vs rfl rfl HE.out HV18.out (by rw [HVl.out]; omega) HV1.out Hn0.out.1 (by have := Hn0.out.2; omega) HS17.out ?_; intro gb cg more w18 hgb hgl hnc hcm hgr; have hx18 := HX18.out.grown hgr (fun e => by injection e with e; have := HX17.out.lt; omega); have f1 := hx18.free 1; have k1 := hx18.cell (j := 1) rfl; have HGb := Lib.hid hgb; have HX19 := Lib.hid (hx18.set 1 (.slice (some ⟨gb, 0, none⟩) n1 cg)); have HGl := Lib.hid hgl; have HB19 : Hid (Below w16.heap.size w16 w18) := below_lit HB18.out hgr HB17.out.size HB18.out.size; have HXg : Hid (xb ≠ gb) := (fun e => by have := HX17.out.lt; omega); have Hcm := Lib.hid hcm; clear hx18 hgb hgl hgr)
  have HX20 : Hid (Blk (w18.setCell ⟨xb, 1, none⟩ (.slice (some ⟨gb, 0, none⟩) n1 cg)) xb 26 [.int .u32 (ver : Int), .slice (some ⟨gb, 0, none⟩) n1 cg, .slice (some ⟨ob, 0, none⟩) n2 n2, .int .u32 (lock : Int)]) := HX19.out
  have HG20 : Hid (Blk (w18.setCell ⟨xb, 1, none⟩ (.slice (some ⟨gb, 0, none⟩) n1 cg)) gb 57 (vs ++ more)) := HGb.out.other (by exact fun e => HXg.out e.symm) _
  have HB20 : Hid (Below w16.heap.size w16 (w18.setCell ⟨xb, 1, none⟩ (.slice (some ⟨gb, 0, none⟩) n1 cg))) := HB19.out.setCell (p := ⟨xb, 1, none⟩) (Nat.le_of_eq HXb.out.symm) _
  clear HX19 HGb HB19 f1 k1 c1'
  generalize w18.setCell ⟨xb, 1, none⟩ (.slice (some ⟨gb, 0, none⟩) n1 cg) = W20 at HX20 HG20 HB20 ⊢
  have HGw : Hid (w16.heap.size ≤ gb) := Nat.le_trans HB17.out.size HGl.out
  have hnc' : (n1 : Int) ≤ (cg : Int) := by omega
  clear HE HV18 HX18 HB18 HV17 HX17 HU17 HB17 HS17
  go_upto_region 13 with fail
  go_loopw [11] (fun iv wq => ∃ (j : Nat), j ≤ n1 ∧ iv = .int .i64 (j : Int) ∧ Below w16.heap.size w16 wq ∧ Blk wq xb 26 [.int .u32 (ver : Int), .slice (some ⟨gb, 0, none⟩) n1 cg, .slice (some ⟨ob, 0, none⟩) n2 n2, .int .u32 (lock : Int)] ∧ ∃ a b, InsW w16 ((t.ins.take j).map bareI) a ∧ InsW w16 (t.ins.drop j) b ∧ a.length = 36 * j ∧ Blk wq gb 57 (a ++ (b ++ more))) (fun iv _ => n1 - (intOf iv).toNat)
  case atStart => exact ⟨0, Nat.zero_le _, rfl, HB20.out, HX20.out, [], vs, by simp [InsW], by simpa using HVs.out, rfl, HG20.out⟩
  case round =>
    obtain ⟨j, hj, rfl, hbj, hxj, a, b, ha, hb, hal, hgj⟩ := hrel
    clear HB20 HX20 HG20
    have c1' := hxj.cell (j := 1) rfl
    by_cases hlt : j < n1
    · have hlt' : (j : Int) < (n1 : Int) := by omega
      have h0j : (0 : Int) ≤ (j : Int) := by omega
      have hd := List.drop_eq_getElem_cons (show j < t.ins.length by rw [← Hn1.out]; exact hlt)
      have hx32 : (t.ins[j]'(by rw [← Hn1.out]; exact hlt)).tx.length = 32 := (Hti.out.1 _ (List.getElem_mem _)).1
      rw [hd] at hb
      obtain ⟨v, u, rr, rfl, hin, hrr⟩ := hb
      rw [List.append_assoc] at hgj
      have hst : (a ++ (inV (t.ins[j]'(by rw [← Hn1.out]; exact hlt)) v u ++ (rr ++ more)))[36 * j + 35]? = some u := by
        rw [← hal, List.getElem?_append_right (by omega), Nat.add_sub_cancel_left, List.getElem?_append_left (by rw [inV_len hx32]; omega)]
        exact (inV_at hx32).2.2.2
      have k1 := hgj.cell hst
      have f1 := hgj.free (36 * j + 35)
      have hset := hgj.set (36 * j + 35) (.slice none 0 0)
      rw [set35 _ _ _ _ _ _ _ hal.symm hx32] at hset
      have e36 : (36 : Nat) * j + 35 = j * 36 + 35 := by omega
      rw [e36] at k1 f1 hset
      have HA := Lib.hid ha
      have HRr := Lib.hid hrr
      have HIn := Lib.hid hin
      have HSet := Lib.hid hset
      have HAl := Lib.hid hal
      have HXj := Lib.hid hxj
      have HBj := Lib.hid hbj
      have H32 := Lib.hid hx32
      clear ha hrr hin hset hal hxj hbj hx32 hst hgj hd e36
      go_wp2_with fail
      go_roundw
      case rel =>
        refine ⟨j + 1, by omega, by go_num, ?_, ?_, a ++ inV (bareI (t.ins[j]'(by rw [← Hn1.out]; exact hlt))) v (.slice none 0 0), rr, ?_, HRr.out, ?_, ?_⟩
        · exact HBj.out.setCell (p := ⟨gb, j * 36 + 35, none⟩) HGw.out _
        · exact HXj.out.other (by exact HXg.out) _
        · rw [List.take_succ_eq_append_getElem (show j < t.ins.length by rw [← Hn1.out]; exact hlt), List.map_append]
          exact HA.out.app ⟨v, .slice none 0 0, [], by simp, ⟨HIn.out.1, Or.inl ⟨rfl, rfl⟩⟩, rfl⟩
        · rw [List.length_append, inV_len (by exact H32.out), HAl.out]; omega
        · rw [List.append_assoc]; exact HSet.out
      case measure => simp [intOf]; omega
    · obtain rfl : j = n1 := by omega
      have hlt' : ¬ (j : Int) < (j : Int) := by omega
      rw [List.drop_eq_nil_of_le (by rw [← Hn1.out]; exact Nat.le_refl _)] at hb
      cases hb
      rw [List.take_of_length_le (by rw [← Hn1.out]; exact Nat.le_refl _)] at ha
      rw [List.nil_append] at hgj
      have HA := Lib.hid ha
      have HXj := Lib.hid hxj
      have HBj := Lib.hid hbj
      have HGj := Lib.hid hgj
      clear ha hxj hbj hgj hal
      go_upto_region 16 with fail
      clear c1'
      have HTb : Hid (TxOk wr wr.heap.size (bareT t) (.slice (some ⟨gb, 0, none⟩) j cg) (.slice (some ⟨ob, 0, none⟩) n2 n2)) := by
        obtain ⟨ib', ob', e1', e2', _, hro, hxi, hyo, _, hl2, hv4, hl4⟩ := HN16.out
        cases e2'
        have h1 : Is wr wr.heap.size (.slice (some ⟨gb, 0, none⟩) j cg) (t.ins.map bareI) := InsW.is' (HA.out.below HBj.out) HGj.out (fun x hx => by
          obtain ⟨y, hy, rfl⟩ := List.mem_map.1 hx
          exact ⟨(hxi y hy).1, Nat.zero_le _⟩) (by rw [List.length_map]; exact Hn1.out.symm) hnc Hcm.out
        obtain ⟨us, ho1, ho2⟩ := hro.below HBj.out
        exact ⟨h1, ho1.os ho2 hyo rfl (by omega), hv4, hl4⟩
      have HWr : Hid (Below w.heap.size w wr) := HW16.out.trans (Below.mono HBj.out HW16.out.size)
      have HZr : Hid (SB W0 wr) := SB.trans HY16.out HBj.out
      generalize hWd : wr.drew = We
      have HDr : Hid (SB wr We) := (hWd ▸ SB.drew wr : SB wr We)
      have BW : Hid (∀ wq, SB wr wq → Below w.heap.size w wq) := fun wq hq => HWr.out.trans (Below.mono hq HWr.out.size)
      have KJ : Hid (∀ wq, SB wr wq → Calls Tryd.prog 16 #[.agg #[.int .u32 (ver : Int), .slice (some ⟨gb, 0, none⟩) j cg, .slice (some ⟨ob, 0, none⟩) n2 n2, .int .u32 (lock : Int)]] wq (HashP D1 wq)) := fun wq hq => by
        have := KIb.out _ _ wq (BW.out wq hq) ((HTb.out.keep hq (Nat.le_refl _)).up (SB.size hq))
        unfold txV bareT at this
        rw [← Hv.out, ← Hlk.out] at this
        exact this
      have KK : Hid (∀ wq, SB wr wq → Calls Tryd.prog 18 #[.agg #[.int .u32 (ver : Int), .slice (some ⟨gb, 0, none⟩) j cg, .slice (some ⟨ob, 0, none⟩) n2 n2, .int .u32 (lock : Int)]] wq (HashP D1 wq)) := fun wq hq => by
        have := KFb.out _ _ wq (BW.out wq hq) ((HTb.out.keep hq (Nat.le_refl _)).up (SB.size hq))
        unfold txV bareT at this
        rw [← Hv.out, ← Hlk.out] at this
        exact this
      refine wp_region_but (z := 999) (SB We) (by kernel_rfl) ?_
      rw [hWd]
      have hS : SB We We := SB.refl We
      clear hWd
      have HSe : Hid (SB We We) := hS
      refine AnyBut.takeE (i := 0) (v := .agg #[.int .u32 (ver : Int), .slice (some ⟨gb, 0, none⟩) j cg, .slice (some ⟨ob, 0, none⟩) n2 n2, .int .u32 (lock : Int)]) rfl (by kernel_rfl) (by kernel_rfl) (by kernel_rfl) (by kernel_rfl) (fun _ _ _ h => h) (Or.inl ⟨by rfl, ?_⟩) hS ?_
      · intro wq hq
        have hbq := HXj.out.below (show Below wr.heap.size wr wq from (SB.trans HDr.out (SB.trans HSe.out hq))) HXj.out.lt
        have dq0 := hbq.cell (j := 0) rfl
        have dq1 := hbq.cell (j := 1) rfl
        have dq2 := hbq.cell (j := 2) rfl
        have dq3 := hbq.cell (j := 3) rfl
        go_simp
      try simp only [Act.put, List.setIfInBounds_toArray, List.set_cons_zero, List.set_cons_succ, List.getElem_toArray, List.getElem_cons_zero, List.getElem_cons_succ]
      refine AnyBut.takeE (i := 2) (v := .agg #[.int .u32 (ver : Int), .slice A1 j c1, .slice A2 n2 c2, .int .u32 (lock : Int)]) rfl (by kernel_rfl) (by kernel_rfl) (by kernel_rfl) (by kernel_rfl) (fun _ _ _ h => h) (Or.inl ⟨by rfl, ?_⟩) hS ?_
      · intro wq hq
        obtain ⟨dq0, dq1, dq2, dq3⟩ := HT.out wq (SB.trans HZr.out (SB.trans HDr.out (SB.trans HSe.out hq)))
        go_simp
      try simp only [Act.put, List.setIfInBounds_toArray, List.set_cons_zero, List.set_cons_succ, List.getElem_toArray, List.getElem_cons_zero, List.getElem_cons_succ]
      refine AnyBut.gone (i := 1) (by kernel_rfl) rfl (by rfl) (fun K hK => ?_)
      go_simp
      (with_reducible refine (KJ.out _ (SB.trans HDr.out HSe.out)).mono ?_)
      rintro e w21 ⟨rfl, hb⟩
      have hS21 : SB We w21 := SB.next hS hb
      have HS21 := Lib.hid hS21
      have HBl21 := Lib.hid hb
      clear hb
      dsimp only
      refine hK _ _ (fun _ => hS21) ?_
      clear hK K hS
      try simp only [Act.put, List.setIfInBounds_toArray, List.set_cons_zero, List.set_cons_succ, List.getElem_toArray, List.getElem_cons_zero, List.getElem_cons_succ]
      refine AnyBut.stronger (S' := SB w21) (fun _ h => Below.trans hS21 (Below.mono h hS21.size)) ?_
      clear hS21
      have hS : SB w21 w21 := SB.refl w21
      have HX21 : Hid (SB We w21) := SB.trans HSe.out HS21.out
      refine AnyBut.gone (i := 3) (by kernel_rfl) rfl (by rfl) (fun K hK => ?_)
      go_simp
      (with_reducible refine (KI.out _ (BW.out _ (SB.trans HDr.out HX21.out))).mono ?_)
      rintro e w22 ⟨rfl, hb⟩
      have hS22 : SB w21 w22 := SB.next hS hb
      have HS22 := Lib.hid hS22
      have HBl22 := Lib.hid hb
      clear hb
      dsimp only
      refine hK _ _ (fun _ => hS22) ?_
      clear hK K hS
      try simp only [Act.put, List.setIfInBounds_toArray, List.set_cons_zero, List.set_cons_succ, List.getElem_toArray, List.getElem_cons_zero, List.getElem_cons_succ]
      refine AnyBut.stronger (S' := SB w22) (fun _ h => Below.trans hS22 (Below.mono h hS22.size)) ?_
      clear hS22
      have hS : SB w22 w22 := SB.refl w22
      have HX22 : Hid (SB We w22) := SB.trans HX21.out HS22.out
      refine AnyBut.takeE (i := 4) (v := .bool true) rfl (by kernel_rfl) (by kernel_rfl) (by kernel_rfl) (by kernel_rfl) (fun _ _ _ h => h) (Or.inl ⟨by rfl, ?_⟩) hS ?_
      · intro wq hq
        have he := e1.out wq
        go_simp
      try simp only [Act.put, List.setIfInBounds_toArray, List.set_cons_zero, List.set_cons_succ, List.getElem_toArray, List.getElem_cons_zero, List.getElem_cons_succ]
      refine AnyBut.takeE (i := 5) (v := ?_) rfl (by kernel_rfl) (by kernel_rfl) (by kernel_rfl) (by kernel_rfl) (fun _ _ _ h => h) (Or.inl ⟨by rfl, ?_⟩) hS ?_
      rotate_left
      · (intro wq hq; go_simp; try with_reducible rfl)
      try simp only [Act.put, List.setIfInBounds_toArray, List.set_cons_zero, List.set_cons_succ, List.getElem_toArray, List.getElem_cons_zero, List.getElem_cons_succ]
      refine AnyBut.takeE (i := 6) (v := .agg #[.int .u32 (ver : Int), .slice (some ⟨gb, 0, none⟩) j cg, .slice (some ⟨ob, 0, none⟩) n2 n2, .int .u32 (lock : Int)]) rfl (by kernel_rfl) (by kernel_rfl) (by kernel_rfl) (by kernel_rfl) (fun _ _ _ h => h) (Or.inl ⟨by rfl, ?_⟩) hS ?_
      · intro wq hq
        have hbq := HXj.out.below (show Below wr.heap.size wr wq from (SB.trans HDr.out (SB.trans HX22.out hq))) HXj.out.lt
        have dq0 := hbq.cell (j := 0) rfl
        have dq1 := hbq.cell (j := 1) rfl
        have dq2 := hbq.cell (j := 2) rfl
        have dq3 := hbq.cell (j := 3) rfl
        go_simp
      try simp only [Act.put, List.setIfInBounds_toArray, List.set_cons_zero, List.set_cons_succ, List.getElem_toArray, List.getElem_cons_zero, List.getElem_cons_succ]
      refine AnyBut.takeE (i := 8) (v := .agg #[.int .u32 (ver : Int), .slice A1 j c1, .slice A2 n2 c2, .int .u32 (lock : Int)]) rfl (by kernel_rfl) (by kernel_rfl) (by kernel_rfl) (by kernel_rfl) (fun _ _ _ h => h) (Or.inl ⟨by rfl, ?_⟩) hS ?_
      · intro wq hq
        obtain ⟨dq0, dq1, dq2, dq3⟩ := HT.out wq (SB.trans HZr.out (SB.trans HDr.out (SB.trans HX22.out hq)))
        go_simp
      try simp only [Act.put, List.setIfInBounds_toArray, List.set_cons_zero, List.set_cons_succ, List.getElem_toArray, List.getElem_cons_zero, List.getElem_cons_succ]
      refine AnyBut.gone (i := 7) (by kernel_rfl) rfl (by rfl) (fun K hK => ?_)
      go_simp
      (with_reducible refine (KK.out _ (SB.trans HDr.out HX22.out)).mono ?_)
      rintro e w23 ⟨rfl, hb⟩
      have hS23 : SB w22 w23 := SB.next hS hb
      have HS23 := Lib.hid hS23
      have HBl23 := Lib.hid hb
      clear hb
      dsimp only
      refine hK _ _ (fun _ => hS23) ?_
      clear hK K hS
      try simp only [Act.put, List.setIfInBounds_toArray, List.set_cons_zero, List.set_cons_succ, List.getElem_toArray, List.getElem_cons_zero, List.getElem_cons_succ]
      refine AnyBut.stronger (S' := SB w23) (fun _ h => Below.trans hS23 (Below.mono h hS23.size)) ?_
      clear hS23
      have hS : SB w23 w23 := SB.refl w23
      have HX23 : Hid (SB We w23) := SB.trans HX22.out HS23.out
      refine AnyBut.gone (i := 9) (by kernel_rfl) rfl (by rfl) (fun K hK => ?_)
      go_simp
      (with_reducible refine (KI.out _ (BW.out _ (SB.trans HDr.out HX23.out))).mono ?_)
      rintro e w24 ⟨rfl, hb⟩
      have hS24 : SB w23 w24 := SB.next hS hb
      have HS24 := Lib.hid hS24
      have HBl24 := Lib.hid hb
      clear hb
      dsimp only
      refine hK _ _ (fun _ => hS24) ?_
      clear hK K hS
      try simp only [Act.put, List.setIfInBounds_toArray, List.set_cons_zero, List.set_cons_succ, List.getElem_toArray, List.getElem_cons_zero, List.getElem_cons_succ]
      refine AnyBut.stronger (S' := SB w24) (fun _ h => Below.trans hS24 (Below.mono h hS24.size)) ?_
      clear hS24
      have hS : SB w24 w24 := SB.refl w24
      have HX24 : Hid (SB We w24) := SB.trans HX23.out HS24.out
      refine AnyBut.takeE (i := 10) (v := .bool true) rfl (by kernel_rfl) (by kernel_rfl) (by kernel_rfl) (by kernel_rfl) (fun _ _ _ h => h) (Or.inl ⟨by rfl, ?_⟩) hS ?_
      · intro wq hq
        have he := e1.out wq
        go_simp
      try simp only [Act.put, List.setIfInBounds_toArray, List.set_cons_zero, List.set_cons_succ, List.getElem_toArray, List.getElem_cons_zero, List.getElem_cons_succ]
      refine AnyBut.takeE (i := 11) (v := ?_) rfl (by kernel_rfl) (by kernel_rfl) (by kernel_rfl) (by kernel_rfl) (fun _ _ _ h => h) (Or.inl ⟨by rfl, ?_⟩) hS ?_
      rotate_left
      · (intro wq hq; go_simp; try with_reducible rfl)
      try simp only [Act.put, List.setIfInBounds_toArray, List.set_cons_zero, List.set_cons_succ, List.getElem_toArray, List.getElem_cons_zero, List.getElem_cons_succ]
      refine AnyBut.takeE (i := 12) (v := ?_) rfl (by kernel_rfl) (by kernel_rfl) (by kernel_rfl) (by kernel_rfl) (fun _ _ _ h => h) (Or.inl ⟨by rfl, ?_⟩) hS ?_
      rotate_left
      · (intro wq hq; go_simp; try with_reducible rfl)
      try simp only [Act.put, List.setIfInBounds_toArray, List.set_cons_zero, List.set_cons_succ, List.getElem_toArray, List.getElem_cons_zero, List.getElem_cons_succ]
      refine AnyBut.gone (i := 13) (by kernel_rfl) rfl (by rfl) (fun K hK => ?_)
      go_simp
      (with_reducible refine (KAw.out _).mono ?_)
      rintro e w25 ⟨rfl, hb⟩
      have hS25 : SB w24 w25 := SB.next hS hb
      have HS25 := Lib.hid hS25
      have HBl25 := Lib.hid hb
      clear hb
      dsimp only
      refine hK _ _ (fun _ => hS25) ?_
      clear hK K hS
      try simp only [Act.put, List.setIfInBounds_toArray, List.set_cons_zero, List.set_cons_succ, List.getElem_toArray, List.getElem_cons_zero, List.getElem_cons_succ]
      refine AnyBut.stronger (S' := SB w25) (fun _ h => Below.trans hS25 (Below.mono h hS25.size)) ?_
      clear hS25
      have hS : SB w25 w25 := SB.refl w25
      have HX25 : Hid (SB We w25) := SB.trans HX24.out HS25.out
      refine AnyBut.takeE (i := 14) (v := ?_) rfl (by kernel_rfl) (by kernel_rfl) (by kernel_rfl) (by kernel_rfl) (fun _ _ _ h => h) (Or.inl ⟨by rfl, ?_⟩) hS ?_
      rotate_left
      · (intro wq hq; go_simp; try with_reducible rfl)
      try simp only [Act.put, List.setIfInBounds_toArray, List.set_cons_zero, List.set_cons_succ, List.getElem_toArray, List.getElem_cons_zero, List.getElem_cons_succ]
      refine AnyBut.gone (i := 15) (by kernel_rfl) rfl (by rfl) (fun K hK => ?_)
      go_simp
      refine hK _ _ (fun _ => hS) ?_
      clear hK K
      refine AnyBut.done (by kernel_rfl) ?_ _
      try dsimp only [Exit.then]
      clear hS
      go_wp2_with fail
      go_ret
      exact ⟨rfl, BW.out _ (SB.trans HDr.out HX25.out)⟩
open Go.RowKit
theorem own : ownKnob Tryd.prog.godebug = none := by kernel_rfl
theorem laidOut : laidOutB Tryd.prog = true := by kernel_rfl
end Go.Proofs.YtnkkhmgplpkjbaaDoor
