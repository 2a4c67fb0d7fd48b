/- The law ShaTries returns true for every chunk and every ends, in a world whose two tables are as laid. -/
import Derived.Test.YtjbjkddgefiicaaDoorAa
import Derived.Test.YtjbjkddgefiicaaDoorH
import Derived.Test.YtjbjkddgefiicaaDoorZ
import Derived.Deep.RegionHeld3
import Derived.Deep.DeepCutAuto
namespace Go.Proofs.YtjbjkddgefiicaaDoor
open Go.RowKit
set_option linter.unusedVariables false
set_option linter.unusedSimpArgs false
/-- The slices that came in. -/
structure Rows2 (w : World) (B : Nat) (n : Nat) (A0 : Option Addr) (E : Nat → List (BitVec 8)) (Ad : Nat → Option Addr) (Cp : Nat → Nat) : Prop where
  top : 0 < n → ∃ b o, A0 = some ⟨b, o, none⟩ ∧ b < B ∧ ∀ i, i < n → w.cell? ⟨b, o + i, none⟩ = some (.slice (Ad i) (E i).length (Cp i))
  rd : ∀ i, i < n → Rd w B (Ad i) (E i) ∧ (E i).length ≤ Cp i ∧ Cp i ≤ 9223372036854775807 ∧ (Ad i = none → Cp i = 0)
theorem Rd.keep' {w w' : World} {B B' : Nat} {A : Option Addr} {R : List (BitVec 8)} (h : Rd w B A R) (hb : Below B' w w') (hB : B ≤ B') : Rd w' B A R := fun hp => by
  obtain ⟨b, o, e, hlt, hc⟩ := h hp
  exact ⟨b, o, e, hlt, fun j hj => by rw [hb.cell (p := ⟨b, o + j, none⟩) (Nat.lt_of_lt_of_le hlt hB)]; exact hc j hj⟩
theorem Rd.up {w : World} {B B' : Nat} {A : Option Addr} {R : List (BitVec 8)} (h : Rd w B A R) (hB : B ≤ B') : Rd w B' A R := fun hp => by
  obtain ⟨b, o, e, hlt, hc⟩ := h hp
  exact ⟨b, o, e, Nat.lt_of_lt_of_le hlt hB, hc⟩
theorem info33' {s : St} {b : Bool} : (Tryd.prog.info? 33).map (·.size) = some (mdv s b).length := by kernel_rfl
theorem neq_same (X : List (BitVec 8)) (hX : X.length = 32) (w : World) : (binOp .neq 25 (.agg (vbs X).toArray) (.agg (vbs X).toArray)).run Tryd.prog w = .ok (.bool false) w := by
  have h := eql_same X hX w
  rw [run_eql_struct] at h
  rw [run_neq_struct]
  revert h
  cases (Op.equalIn 10000 25 (.agg (vbs X).toArray) (.agg (vbs X).toArray)).run Tryd.prog w with
  | ok b w' => intro h; simp [Result.andThen] at h ⊢; obtain ⟨rfl, rfl⟩ := h; exact ⟨rfl, rfl⟩
  | _ => intro h; simp [Result.andThen] at h
/-- What stays through the rounds. -/
structure TR (w : World) (C : List (BitVec 8)) (s : St) (mb : Nat) (W : World) : Prop where
  bel : Below w.heap.size w W
  c : Blk W w.heap.size 28 (vbs C)
  m : Blk W mb 33 (mdv s true)
theorem TR.below {w : World} {C : List (BitVec 8)} {s : St} {mb : Nat} {W W' : World} (h : TR w C s mb W) (hb : Below W.heap.size W W') : TR w C s mb W' :=
  ⟨h.bel.trans (hb.mono h.bel.size), h.c.below hb h.c.lt, h.m.below hb h.m.lt⟩
theorem s28all (b : Nat) (w : World) : (Instr.sliceAt 28 (.pointer (some ⟨b, 0, none⟩)) none none none).run Tryd.prog w = .ok (.slice (some ⟨b, 0, none⟩) 64 64) w := by
  rw [run_sliceAt_array_all w 28 _ (by kernel_rfl)]
  have hs : (sizeOf (Tryd.prog.elem 28)).run Tryd.prog w = .ok 1 w := by kernel_rfl
  have hl : Tryd.prog.arrayLen 28 = 64 := by kernel_rfl
  rw [hs, hl]
  rfl
set_option maxRecDepth 100000 in
set_option maxHeartbeats 4000000 in
theorem tries_gen (C : List (BitVec 8)) (hC : C.length = 64) (s : St) (tw : List (BitVec 8) → List (BitVec 8)) (tw_len : ∀ R, (tw R).length = 32)
    (n : Nat) (A0 : Option Addr) (cap : Nat) (E : Nat → List (BitVec 8)) (Ad : Nat → Option Addr) (Cp : Nat → Nat) (w : World) (hG : Glob w)
    (hr : Rows2 w w.heap.size n A0 E Ad Cp) (hcap : n ≤ cap) (hcm : cap ≤ 9223372036854775807) (hn : n ≤ 30)
    (hHalf : ∀ w', Glob w' → Calls Tryd.prog 16 #[.agg (vbs C).toArray] w' fun e w'' => e = .returned (.agg (mdv s true).toArray) ∧ Below w'.heap.size w' w'')
    (hMid : ∀ (A : Option Addr) (cap : Nat) (R : List (BitVec 8)) (w' : World), Glob w' → Rd w' w'.heap.size A R → R.length ≤ cap → R.length < 1000 →
      Calls Tryd.prog 17 #[.agg (mdv s true).toArray, .slice A R.length cap] w' fun e w'' => e = .returned (.agg (vbs (tw (C ++ R))).toArray) ∧ Below w'.heap.size w' w'')
    (hTw : ∀ (A : Option Addr) (cap : Nat) (R : List (BitVec 8)) (w' : World), Glob w' → Rd w' w'.heap.size A R → R.length ≤ cap → R.length < 1000 →
      Calls Tryd.prog 14 #[.slice A R.length cap] w' fun e w'' => e = .returned (.agg (vbs (tw R)).toArray) ∧ Below w'.heap.size w' w'')
    (hA : ∀ w', Glob w' → Calls Tryd.prog 11 #[] w' fun e w'' => e = .returned (.bool true) ∧ Below w'.heap.size w' w'') :
    Calls Tryd.prog 8 #[.agg (vbs C).toArray, .slice A0 n cap] w fun e w' => e = .returned (.bool true) ∧ Below w.heap.size w w' := by
  have hn1 : ¬ (30 : Int) < (n : Int) := by omega
  have hb0 : Below w.heap.size w (w.alloc (Obj.cells (vbs C).toArray 28)) := (Below.refl _ _).alloc (Nat.le_refl _) _
  have h1 := Blk.new w 28 (vbs C).toArray
  rw [List.toList_toArray] at h1
  have HR := Lib.hid hr
  have HG := Lib.hid hG
  have HB := Lib.hid hb0
  have H1 := Lib.hid h1
  have H1r := Lib.hid h1.range
  have HC := Lib.hid hC
  have KH := Lib.hid (hHalf _ (hG.below hb0))
  have kM := Lib.hid hMid
  have kT := Lib.hid hTw
  have kA := Lib.hid hA
  have KH2 := Lib.hid hHalf
  have hz : ∀ w, (zeroValue 33).run Tryd.prog w = .ok (.agg #[.int .u32 0, .int .u32 0, .int .u32 0, .int .u32 0, .int .u32 0, .int .u32 0, .int .u32 0, .int .u32 0, .bool false]) w := fun _ => by kernel_rfl
  have HT : Hid (∀ w1 : World, (w1.alloc (Obj.cells #[.int .u32 0, .int .u32 0, .int .u32 0, .int .u32 0, .int .u32 0, .int .u32 0, .int .u32 0, .int .u32 0, .bool false] 33)).there w1.heap.size 0 (mdv s true).toArray.size) := fun w1 => (Blk.new w1 33 #[.int .u32 0, .int .u32 0, .int .u32 0, .int .u32 0, .int .u32 0, .int .u32 0, .int .u32 0, .int .u32 0, .bool false]).there
  have HO : Hid ((mdv s true).toArray.all (·.oneCell') = true) := all_oneCell_toArray (mdv_one s true)
  clear hr hG hb0 h1 hC hHalf hMid hTw hA
  go_enter Tryd.func8, Tryd.ntmps8
  go_upto_region 4 with (first | (with_reducible refine wpList_load_mid rfl 28 (.tmp 2) rfl w.heap.size 0 rfl (vbs C) _ H1r.out Tryd.underlying28 rfl (info28 HC.out) ?_) | (go_at_call 16; (with_reducible refine KH.out.mono ?_); rintro e w1 ⟨rfl, hb1⟩; dsimp only) | (with_reducible refine wpList_store_mid rfl 33 (.tmp 5) (.tmp 14) rfl w1.heap.size 0 (mdv s true).toArray rfl rfl (HT.out w1) info33 HO.out ?_))
  have hT : TR w C s w1.heap.size ((w1.alloc (Obj.cells #[.int .u32 0, .int .u32 0, .int .u32 0, .int .u32 0, .int .u32 0, .int .u32 0, .int .u32 0, .int .u32 0, .bool false] 33)).setCells w1.heap.size 0 (mdv s true)) := by
    have b1 : Below w.heap.size w w1 := HB.out.trans (hb1.mono (by simp))
    have c1 : Blk w1 w.heap.size 28 (vbs C) := H1.out.below hb1 H1.out.lt
    have hm := (Blk.new w1 33 #[.int .u32 0, .int .u32 0, .int .u32 0, .int .u32 0, .int .u32 0, .int .u32 0, .int .u32 0, .int .u32 0, .bool false]).setCells (mdv s true) rfl
    exact ⟨below_setCells b1.size _ _ _ (b1.alloc b1.size _), Blk.other_setCells (by have := c1.lt; omega) _ _ _ (c1.alloc _), hm⟩
  generalize w1.heap.size = mb at hT ⊢
  generalize World.setCells _ mb 0 _ = W1 at hT ⊢
  have HTR := Lib.hid hT
  clear hT hb1 HB H1 H1r KH HT HO hz
  go_wp2_with fail
  go_loopw [6] (fun r wq => ∃ k : Nat, k ≤ 2 ∧ r = .int .i64 k ∧ TR w C s mb wq) (fun r _ => 2 - (intOf r).toNat)
  case atStart => exact ⟨0, by omega, rfl, HTR.out⟩
  case round =>
    obtain ⟨k, hk, rfl, hT⟩ := hrel
    clear HTR
    by_cases hk2 : k < 2
    · have k1 : (k : Int) < 2 := by omega
      have HTR := Lib.hid hT
      clear hT
      go_wp2_with fail
      go_loopw [7] (fun r wq => ∃ j : Nat, j ≤ n ∧ r = .int .i64 j ∧ TR w C s mb wq) (fun r _ => n - (intOf r).toNat)
      case atStart => exact ⟨0, Nat.zero_le _, rfl, HTR.out⟩
      case round =>
        obtain ⟨j, hj, rfl, hT⟩ := hrel
        clear HTR
        by_cases hjn : j < n
        · obtain ⟨b, o, rfl, hbl, hcell⟩ := HR.out.top (by omega)
          have hc0 := hcell j hjn
          have hc : wr.cell? ⟨b, o + j, none⟩ = some (.slice (Ad j) (E j).length (Cp j)) := by rw [hT.bel.cell (p := ⟨b, o + j, none⟩) hbl]; exact hc0
          have HTR := Lib.hid hT
          have j0 : (0 : Int) ≤ (j : Int) := by omega
          have j1 : (j : Int) < (n : Int) := by omega
          have HC0 := Lib.hid hcell
          clear hT hc0 hcell
          by_cases h100 : 100 < (E j).length
          · have e1 : (100 : Int) < ((E j).length : Int) := by omega
            have KA := Lib.hid (kA.out wr (HG.out.below HTR.out.bel))
            go_wp2_with (go_at_call 11; (with_reducible refine KA.out.mono ?_); rintro e w2 ⟨rfl, hb2⟩; dsimp only)
            go_ret
            exact ⟨rfl, HTR.out.bel.trans (hb2.mono HTR.out.bel.size)⟩
          · have e1 : ¬ (100 : Int) < ((E j).length : Int) := by omega
            go_upto_region 12 with fail
            have hsl : ∀ wq, (Instr.sliceAt 28 (.pointer (some ⟨w.heap.size, 0, none⟩)) none none none).run Tryd.prog wq = .ok (.slice (some ⟨w.heap.size, 0, none⟩) 64 64) wq := s28all _
            refine wp_calm_any ?_
            refine wp_region_but (z := 8) (fun w' : World => w'.cell? ⟨b, o + j, none⟩ = some (.slice (Ad j) (E j).length (Cp j))) (by kernel_rfl) ?_
            have hS : (fun w' : World => w'.cell? ⟨b, o + j, none⟩ = some (.slice (Ad j) (E j).length (Cp j))) wr.drew := hc
            refine AnyBut.take (i := 1) (v := ?_) rfl (by kernel_rfl) (by kernel_rfl) (by kernel_rfl) (by kernel_rfl) (fun _ _ _ h => h) (Or.inl ⟨by rfl, ?_⟩) hS ?_
            rotate_left
            · (intro wq hq; go_simp; try with_reducible rfl)
            try simp only [Act.put, List.setIfInBounds_toArray, List.set_cons_zero, List.set_cons_succ, List.getElem_toArray, List.getElem_cons_zero, List.getElem_cons_succ]
            refine AnyBut.take (i := 3) (v := ?_) rfl (by kernel_rfl) (by kernel_rfl) (by kernel_rfl) (by kernel_rfl) (fun _ _ _ h => h) (Or.inl ⟨by rfl, ?_⟩) hS ?_
            rotate_left
            · (intro wq hq; go_simp; try with_reducible rfl)
            try simp only [Act.put, List.setIfInBounds_toArray, List.set_cons_zero, List.set_cons_succ, List.getElem_toArray, List.getElem_cons_zero, List.getElem_cons_succ]
            refine AnyBut.take (i := 4) (v := ?_) rfl (by kernel_rfl) (by kernel_rfl) (by kernel_rfl) (by kernel_rfl) (fun _ _ _ h => h) (Or.inl ⟨by rfl, ?_⟩) hS ?_
            rotate_left
            · (intro wq hq; go_simp; try with_reducible rfl)
            try simp only [Act.put, List.setIfInBounds_toArray, List.set_cons_zero, List.set_cons_succ, List.getElem_toArray, List.getElem_cons_zero, List.getElem_cons_succ]
            refine AnyBut.take (i := 5) (v := ?_) rfl (by kernel_rfl) (by kernel_rfl) (by kernel_rfl) (by kernel_rfl) (fun _ _ _ h => h) (Or.inl ⟨by rfl, ?_⟩) hS ?_
            rotate_left
            · (intro wq hq; go_simp; try with_reducible rfl)
            try simp only [Act.put, List.setIfInBounds_toArray, List.set_cons_zero, List.set_cons_succ, List.getElem_toArray, List.getElem_cons_zero, List.getElem_cons_succ]
            refine AnyBut.take (i := 6) (v := ?_) rfl (by kernel_rfl) (by kernel_rfl) (by kernel_rfl) (by kernel_rfl) (fun _ _ _ h => h) (Or.inl ⟨by rfl, ?_⟩) hS ?_
            rotate_left
            · (intro wq hq; go_simp; try with_reducible rfl)
            try simp only [Act.put, List.setIfInBounds_toArray, List.set_cons_zero, List.set_cons_succ, List.getElem_toArray, List.getElem_cons_zero, List.getElem_cons_succ]
            refine AnyBut.gone (i := 0) (by kernel_rfl) rfl (by rfl) (fun K hK => ?_)
            go_simp
            have hbl2 : b < wr.heap.size := Nat.lt_of_lt_of_le hbl HTR.out.bel.size
            have hb4 : Below wr.heap.size wr (wr.alloc (Obj.cells #[] 5)).drew := ((Below.refl _ _).alloc (Nat.le_refl _) _).drew
            have own0 : (wr.alloc (Obj.cells #[] 5)).drew.ownsRow wr.heap.size 5 1 (.slice (some ⟨wr.heap.size, 0, none⟩) 0 0) 0 [] := owns_empty wr wr.heap.size (Nat.le_refl _)
            have src0 : Src22 (wr.alloc (Obj.cells #[] 5)).drew (some ⟨w.heap.size, 0, none⟩) 64 (vbs C) := by
              have := src_of_blk (Blk.below HTR.out.c hb4 HTR.out.c.lt)
              rwa [HC.out] at this
            have hS : (fun w' : World => w'.cell? ⟨b, o + j, none⟩ = some (.slice (Ad j) (E j).length (Cp j))) (wr.alloc (Obj.cells #[] 5)).drew := by
              show (wr.alloc (Obj.cells #[] 5)).drew.cell? _ = _
              rw [hb4.cell (p := ⟨b, o + j, none⟩) hbl2]; exact hc
            refine hK _ _ (fun _ => hS) ?_
            clear hK K
            try simp only [Act.put, List.setIfInBounds_toArray, List.set_cons_zero, List.set_cons_succ, List.getElem_toArray, List.getElem_cons_zero, List.getElem_cons_succ]
            generalize (wr.alloc (Obj.cells #[] 5)).drew = w4 at hb4 own0 src0 hS ⊢
            refine AnyBut.gone (i := 2) (by kernel_rfl) rfl (by rfl) (fun K hK => ?_)
            refine wp_app (.tmp 32) (.tmp 33) rfl rfl wr.heap.size _ 0 [] rfl own0 (some ⟨w.heap.size, 0, none⟩) 64 64 (vbs C) rfl src0 (fun h => by cases h) (by omega) hb4.size ?_
            intro v5 w5 own5 hg5
            have hb5 : Below wr.heap.size wr w5 := hb4.grown hg5 hb4.size (fun k hk => (own0.lt k hk).1)
            have hS : (fun w' : World => w'.cell? ⟨b, o + j, none⟩ = some (.slice (Ad j) (E j).length (Cp j))) w5 := by
              show w5.cell? _ = _
              rw [hb5.cell (p := ⟨b, o + j, none⟩) hbl2]; exact hc
            refine hK _ _ (fun _ => hS) ?_
            clear hK K own0 src0 hg5 hb4
            try simp only [Act.put, List.setIfInBounds_toArray, List.set_cons_zero, List.set_cons_succ, List.getElem_toArray, List.getElem_cons_zero, List.getElem_cons_succ]
            have srcE : Src22 w5 (Ad j) (E j).length (vbs (E j)) := src_of_rd ((Rd.keep (HR.out.rd j hjn).1 HTR.out.bel).keep' hb5 HTR.out.bel.size)
            refine AnyBut.gone (i := 7) (by kernel_rfl) rfl (by rfl) (fun K hK => ?_)
            refine wp_app (.tmp 34) (.tmp 38) rfl rfl wr.heap.size v5 (0 + 64) ([] ++ vbs C) rfl own5 (Ad j) (E j).length (Cp j) (vbs (E j)) rfl srcE (HR.out.rd j hjn).2.2.2 (by omega) hb5.size ?_
            intro v6 w6 own6 hg6
            have hb6 : Below wr.heap.size wr w6 := hb5.grown hg6 hb5.size (fun k hk => (own5.lt k hk).1)
            have hS : (fun w' : World => w'.cell? ⟨b, o + j, none⟩ = some (.slice (Ad j) (E j).length (Cp j))) w6 := by
              show w6.cell? _ = _
              rw [hb6.cell (p := ⟨b, o + j, none⟩) hbl2]; exact hc
            refine hK _ _ (fun _ => hS) ?_
            clear hK K own5 hg6 hb5 srcE
            try simp only [Act.put, List.setIfInBounds_toArray, List.set_cons_zero, List.set_cons_succ, List.getElem_toArray, List.getElem_cons_zero, List.getElem_cons_succ]
            refine AnyBut.gone (i := 8) (by kernel_rfl) rfl (by rfl) (fun K hK => ?_)
            go_simp
            refine hK _ _ (fun h => absurd rfl h) ?_
            clear hK K
            refine AnyBut.done (by kernel_rfl) ?_ _
            dsimp only [Exit.then]
            obtain ⟨A6, c6, rfl, hR6, hl6, hm6, _⟩ : ∃ A cap, v6 = .slice A (C ++ E j).length cap ∧ Rd w6 w6.heap.size A (C ++ E j) ∧ (C ++ E j).length ≤ cap ∧ cap ≤ 9223372036854775807 ∧ (A = none → cap = 0) := by
              refine rd_of_owns (base := wr.heap.size) ?_
              have e1 : (C ++ E j).length = 0 + 64 + (E j).length := by rw [List.length_append, HC.out, Nat.zero_add]
              have e2 : vbs (C ++ E j) = [] ++ vbs C ++ vbs (E j) := by simp [vbs]
              rw [e1, e2]; exact own6
            have hT6 : TR w C s mb w6 := HTR.out.below hb6
            clear HTR own6 hc
            obtain ⟨H, hH⟩ : ∃ H, H = C ++ E j := ⟨_, rfl⟩
            have hHl : H.length = 64 + (E j).length := by rw [hH, List.length_append, HC.out]
            rw [← hH] at hR6 hl6 ⊢
            have hT7 : TR w C s mb w6.drew := ⟨hT6.bel.drew, hT6.c.drew, hT6.m.drew⟩
            have hR7 : Rd w6.drew w6.drew.heap.size A6 H := hR6
            have hG6 : Glob w6.drew := HG.out.below hT7.bel
            have kM6 := kM.out (Ad j) (Cp j) (E j)
            have kT6 := kT.out A6 c6 H
            rw [← hH] at kM6
            have HD : Hid (∀ w', Below w6.drew.heap.size w6.drew w' → w'.cell? ⟨mb, 0, none⟩ = some (.int .u32 (U s.a)) ∧ w'.cell? ⟨mb, 1, none⟩ = some (.int .u32 (U s.b)) ∧ w'.cell? ⟨mb, 2, none⟩ = some (.int .u32 (U s.c)) ∧ w'.cell? ⟨mb, 3, none⟩ = some (.int .u32 (U s.d)) ∧ w'.cell? ⟨mb, 4, none⟩ = some (.int .u32 (U s.e)) ∧ w'.cell? ⟨mb, 5, none⟩ = some (.int .u32 (U s.f)) ∧ w'.cell? ⟨mb, 6, none⟩ = some (.int .u32 (U s.g)) ∧ w'.cell? ⟨mb, 7, none⟩ = some (.int .u32 (U s.h)) ∧ w'.cell? ⟨mb, 8, none⟩ = some (.bool true) ∧ w'.cell? ⟨b, o + j, none⟩ = some (.slice (Ad j) (E j).length (Cp j))) := fun w' hb => by
              have hm := (hT7.below hb).m
              refine ⟨hm.cell rfl, hm.cell rfl, hm.cell rfl, hm.cell rfl, hm.cell rfl, hm.cell rfl, hm.cell rfl, hm.cell rfl, hm.cell rfl, ?_⟩
              rw [(hT7.below hb).bel.cell (p := ⟨b, o + j, none⟩) hbl]; exact HC0.out j hjn
            have KM : Hid (∀ w', Below w6.drew.heap.size w6.drew w' → Calls Tryd.prog 17 #[.agg #[.int .u32 (U s.a), .int .u32 (U s.b), .int .u32 (U s.c), .int .u32 (U s.d), .int .u32 (U s.e), .int .u32 (U s.f), .int .u32 (U s.g), .int .u32 (U s.h), .bool true], .slice (Ad j) (E j).length (Cp j)] w' fun e w'' => e = .returned (.agg (vbs (tw H)).toArray) ∧ Below w'.heap.size w' w'') := fun w' hb =>
              kM6 w' (hG6.below hb) (((HR.out.rd j hjn).1.keep (hT7.bel.trans (hb.mono hT7.bel.size))).up (Nat.le_trans hT7.bel.size hb.size)) (HR.out.rd j hjn).2.1 (by omega)
            have KT : Hid (∀ w', Below w6.drew.heap.size w6.drew w' → Calls Tryd.prog 14 #[.slice A6 H.length c6] w' fun e w'' => e = .returned (.agg (vbs (tw H)).toArray) ∧ Below w'.heap.size w' w'') := fun w' hb =>
              kT6 w' (hG6.below hb) ((hR7.keep hb).up hb.size) hl6 (by omega)
            have eQ : ∀ wq, (binOp .neq 25 (.agg (vbs (tw H)).toArray) (.agg (vbs (tw H)).toArray)).run Tryd.prog wq = .ok (.bool false) wq := neq_same _ (tw_len H)
            have HT6 := Lib.hid hT7
            have hbD : Below w6.drew.heap.size w6.drew w6.drew := Below.refl _ _
            obtain ⟨hl, hhl⟩ : ∃ hl, hl = H.length := ⟨_, rfl⟩
            rw [← hhl] at KT ⊢
            clear hT6 hT7 hR7 hHl hR6 hl6 hH kM6 kT6 hG6 hm6 hhl
            go_upto_region 13 with fail
            refine wp_calm_any ?_
            go_region_held3 (fun w' : World => w'.cell? ⟨mb, 0, none⟩ = some (.int .u32 (U s.a)) ∧ w'.cell? ⟨mb, 1, none⟩ = some (.int .u32 (U s.b)) ∧ w'.cell? ⟨mb, 2, none⟩ = some (.int .u32 (U s.c)) ∧ w'.cell? ⟨mb, 3, none⟩ = some (.int .u32 (U s.d)) ∧ w'.cell? ⟨mb, 4, none⟩ = some (.int .u32 (U s.e)) ∧ w'.cell? ⟨mb, 5, none⟩ = some (.int .u32 (U s.f)) ∧ w'.cell? ⟨mb, 6, none⟩ = some (.int .u32 (U s.g)) ∧ w'.cell? ⟨mb, 7, none⟩ = some (.int .u32 (U s.h)) ∧ w'.cell? ⟨mb, 8, none⟩ = some (.bool true) ∧ w'.cell? ⟨b, o + j, none⟩ = some (.slice (Ad j) (E j).length (Cp j))) (first | assumption | exact HD.out _ hb8 | exact HD.out _ hb7 | exact HD.out _ hbD) (first | (go_at_call 17; (with_reducible refine (KM.out _ hbD).mono ?_); rintro e w7 ⟨rfl, hb7⟩; dsimp only) | (go_at_call 14; (with_reducible refine (KT.out _ hb7).mono ?_); rintro e w8' ⟨rfl, hb8'⟩; dsimp only; have hb8 := hb7.trans (hb8'.mono hb7.size)))
            dsimp only [Exit.then]
            have HB8 := Lib.hid hb8
            clear hb7 hb8 hb8' hbD
            go_wp2_with fail
            go_roundw
            case rel => exact ⟨j + 1, by omega, by simp, HT6.out.below HB8.out⟩
            case measure => simp [intOf]; omega
        · have j1 : ¬ (j : Int) < (n : Int) := by omega
          have HTR := Lib.hid hT
          clear hT
          go_wp2_with fail
          go_roundw
          case rel => exact ⟨k + 1, by omega, by simp, HTR.out⟩
          case measure => simp [intOf]; omega
    · have k1 : ¬ (k : Int) < 2 := by omega
      go_upto_region 15 with fail
      have hT7 : TR w C s mb wr.drew := ⟨hT.bel.drew, hT.c.drew, hT.m.drew⟩
      have hG6 : Glob wr.drew := HG.out.below hT7.bel
      have kM6 := kM.out none 0 []
      obtain ⟨H, hH⟩ : ∃ H, H = C ++ [] := ⟨_, rfl⟩
      rw [← hH] at kM6
      have HD : Hid (∀ w', Below wr.drew.heap.size wr.drew w' → w'.cell? ⟨mb, 0, none⟩ = some (.int .u32 (U s.a)) ∧ w'.cell? ⟨mb, 1, none⟩ = some (.int .u32 (U s.b)) ∧ w'.cell? ⟨mb, 2, none⟩ = some (.int .u32 (U s.c)) ∧ w'.cell? ⟨mb, 3, none⟩ = some (.int .u32 (U s.d)) ∧ w'.cell? ⟨mb, 4, none⟩ = some (.int .u32 (U s.e)) ∧ w'.cell? ⟨mb, 5, none⟩ = some (.int .u32 (U s.f)) ∧ w'.cell? ⟨mb, 6, none⟩ = some (.int .u32 (U s.g)) ∧ w'.cell? ⟨mb, 7, none⟩ = some (.int .u32 (U s.h)) ∧ w'.cell? ⟨mb, 8, none⟩ = some (.bool true) ∧ w'.rangeAt w.heap.size 0 (vbs C)) := fun w' hb => by
        have hm := (hT7.below hb).m
        exact ⟨hm.cell rfl, hm.cell rfl, hm.cell rfl, hm.cell rfl, hm.cell rfl, hm.cell rfl, hm.cell rfl, hm.cell rfl, hm.cell rfl, (hT7.below hb).c.range⟩
      have KH : Hid (∀ w', Below wr.drew.heap.size wr.drew w' → Calls Tryd.prog 16 #[.agg (vbs C).toArray] w' fun e w'' => e = .returned (.agg #[.int .u32 (U s.a), .int .u32 (U s.b), .int .u32 (U s.c), .int .u32 (U s.d), .int .u32 (U s.e), .int .u32 (U s.f), .int .u32 (U s.g), .int .u32 (U s.h), .bool true]) ∧ Below w'.heap.size w' w'') := fun w' hb =>
        KH2.out w' (hG6.below hb)
      have KM : Hid (∀ w', Below wr.drew.heap.size wr.drew w' → Calls Tryd.prog 17 #[.agg #[.int .u32 (U s.a), .int .u32 (U s.b), .int .u32 (U s.c), .int .u32 (U s.d), .int .u32 (U s.e), .int .u32 (U s.f), .int .u32 (U s.g), .int .u32 (U s.h), .bool true], .slice none 0 0] w' fun e w'' => e = .returned (.agg (vbs (tw H)).toArray) ∧ Below w'.heap.size w' w'') := fun w' hb =>
        kM6 w' (hG6.below hb) (fun hp => by simp at hp) (Nat.le_refl _) (by simp)
      have KA : Hid (∀ w', Below wr.drew.heap.size wr.drew w' → Calls Tryd.prog 11 #[] w' fun e w'' => e = .returned (.bool true) ∧ Below w'.heap.size w' w'') := fun w' hb =>
        kA.out w' (hG6.below hb)
      have eQ : ∀ wq, (binOp .eql 25 (.agg (vbs (tw H)).toArray) (.agg (vbs (tw H)).toArray)).run Tryd.prog wq = .ok (.bool true) wq := eql_same _ (tw_len H)
      have u28 := Tryd.underlying28
      have i28 : (Tryd.prog.info? 28).map (·.size) = some (vbs C).length := info28 HC.out
      have HT6 := Lib.hid hT7
      have hbD : Below wr.drew.heap.size wr.drew wr.drew := Below.refl _ _
      clear hT hT7 hH kM6 hG6 kM kT kA KH2 HR
      refine wp_calm_any ?_
      go_region_held3 (fun w' : World => w'.cell? ⟨mb, 0, none⟩ = some (.int .u32 (U s.a)) ∧ w'.cell? ⟨mb, 1, none⟩ = some (.int .u32 (U s.b)) ∧ w'.cell? ⟨mb, 2, none⟩ = some (.int .u32 (U s.c)) ∧ w'.cell? ⟨mb, 3, none⟩ = some (.int .u32 (U s.d)) ∧ w'.cell? ⟨mb, 4, none⟩ = some (.int .u32 (U s.e)) ∧ w'.cell? ⟨mb, 5, none⟩ = some (.int .u32 (U s.f)) ∧ w'.cell? ⟨mb, 6, none⟩ = some (.int .u32 (U s.g)) ∧ w'.cell? ⟨mb, 7, none⟩ = some (.int .u32 (U s.h)) ∧ w'.cell? ⟨mb, 8, none⟩ = some (.bool true) ∧ w'.rangeAt w.heap.size 0 (vbs C)) (first | assumption | exact HD.out _ hb11 | exact HD.out _ hb10 | exact HD.out _ hb9 | exact HD.out _ hb8 | exact HD.out _ hbD) (first | (go_at_call 16; (with_reducible refine (KH.out _ hbD).mono ?_); rintro e w8 ⟨rfl, hb8⟩; dsimp only) | (go_at_call 17; (with_reducible refine (KM.out _ hb9).mono ?_); rintro e w10 ⟨rfl, hb10'⟩; dsimp only; have hb10 := hb9.trans (hb10'.mono hb9.size)) | (go_at_call 17; (with_reducible refine (KM.out _ hb8).mono ?_); rintro e w9 ⟨rfl, hb9'⟩; dsimp only; have hb9 := hb8.trans (hb9'.mono hb8.size)) | (go_at_call 11; (with_reducible refine (KA.out _ hb10).mono ?_); rintro e w11 ⟨rfl, hb11'⟩; dsimp only; have hb11 := hb10.trans (hb11'.mono hb10.size)))
      dsimp only [Exit.then]
      go_wp2_with fail
      go_ret
      exact ⟨rfl, HT6.out.bel.trans (hb11.mono HT6.out.bel.size)⟩
end Go.Proofs.YtjbjkddgefiicaaDoor
