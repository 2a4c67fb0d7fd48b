/- What sha.finished, Sum and Twice return. -/
import Derived.Test.YtihbmahjdmfjpaaDoorXb
import Derived.Deep.DeepCutAuto
import Derived.Laws.Cover3
namespace Go.Proofs.YtihbmahjdmfjpaaDoor
set_option maxRecDepth 100000
open Go.RowKit
set_option linter.unusedVariables false
set_option linter.unusedSimpArgs false
theorem info28 {C : List (BitVec 8)} (h : C.length = 64) : (Tryd.prog.info? 56).map (·.size) = some (vbs C).length := by
  rw [vbs_len, h]; kernel_rfl
theorem info31 {s : St} : (Tryd.prog.info? 100).map (·.size) = some (stv s).toList.length := by kernel_rfl
section
variable (ch : St → List (BitVec 8) → St)
/-- The state behind k chunks of R. -/
def blocks (S : St) (R : List (BitVec 8)) : Nat → St
  | 0 => S
  | k + 1 => ch (blocks S R k) ((R.drop (64 * k)).take 64)
/-- The digest's bytes of a text: so many bytes have led to S, R is what follows them. -/
def fin (S : St) (dn : Nat) (R : List (BitVec 8)) : List (BitVec 8) :=
  joinB (blocks ch (blocks ch S R (R.length / 64)) (padEnd (R.drop (64 * (R.length / 64))) (dn + R.length)) (manyOf (R.length % 64)))
def lenOf : Value → Nat
  | .slice _ n _ => n
  | _ => 0
structure F1 (w wq : World) (S : St) (R : List (BitVec 8)) (k : Nat) (A : Option Addr) : Prop where
  bel : Below w.heap.size w wq
  rd : Rd wq w.heap.size A (R.drop (64 * k))
  b0 : Blk wq w.heap.size 100 (stv (blocks ch S R k)).toList
  b1 : Blk wq (w.heap.size + 1) 25 (vbs (jk S 0))
structure FG (w : World) (S : St) (R : List (BitVec 8)) (k : Nat) (wq : World) : Prop where
  bel : Below w.heap.size w wq
  b0 : Blk wq w.heap.size 100 (stv (blocks ch S R k)).toList
  b1 : Blk wq (w.heap.size + 1) 25 (vbs (jk S 0))
def RelF (w : World) (S : St) (R : List (BitVec 8)) (v : Value) (wq : World) : Prop :=
  ∃ (k : Nat) (A : Option Addr) (cap : Nat), 64 * k ≤ R.length ∧ v = .slice A (R.length - 64 * k) cap ∧ R.length - 64 * k ≤ cap ∧ F1 ch w wq S R k A
theorem Rd.alloc {w : World} {B : Nat} {A : Option Addr} {R : List (BitVec 8)} (h : Rd w B A R) (hB : B ≤ w.heap.size) (o : Obj) : Rd (w.alloc o) B A R := h.keep ((Below.refl B w).alloc hB o)
theorem slice55l (b j : Nat) (w : World) (hj : j < 2) : (Instr.sliceAt 102 (.pointer (some ⟨b, 0, none⟩)) (some (.int .i64 (64 * (j : Int)))) none none).run Tryd.prog w =
    .ok (.slice (some ⟨b, 64 * j, none⟩) (128 - 64 * j) (128 - 64 * j)) w := by
  have hl : Tryd.prog.arrayLen 102 = 128 := by kernel_rfl
  have hs : (sizeOf (Tryd.prog.elem 102)).run Tryd.prog w = .ok 1 w := by kernel_rfl
  rw [run_sliceAt_array_l w 102 _ (by kernel_rfl) .i64 (64 * (j : Int)) (by omega) (by rw [hl]; omega), hs, hl]
  rw [show (64 * (j : Int)).toNat = 64 * j by omega]
  show Result.ok (slicedAt _ _ _ _ _) w = _
  unfold slicedAt
  rw [if_neg (by omega)]
  simp [Addr.add]
  omega
theorem wp_calm_any {P : Program} {c : Code} {Q' : Exit → Act → World → Prop} {a : Act} {w : World}
    (h : c.wp P (Exit.then (fun a w => Q' .normal a w) fun _ _ _ => False) a w) : c.wp P Q' a w :=
  Code.wp_mono (fun e a w q => by cases e <;> first | exact q | exact q.elim) h
theorem there_arr2 {w : World} {b : Nat} {s : St} {vs : List Value} (h : w.there b 0 (vbs (jk s 0)).length) (hl : vs.length = 32) : w.there b 0 vs.toArray.size := by
  rw [vbs_len, jk_len] at h; rw [List.size_toArray, hl]; exact h
def Z128 : List (BitVec 8) := List.replicate 128 0
theorem Z128_len : Z128.length = 128 := List.length_replicate
theorem there_new0 (w : World) {E : List (BitVec 8)} (h : E.length = 128) : (w.alloc (Obj.cells (vbs Z128).toArray 102)).there w.heap.size 0 (vbs E).toArray.size := by
  have h1 := (Blk.new w 102 (vbs Z128).toArray).there
  have e1 : (vbs Z128).toArray.toList.length = 128 := by rw [List.toList_toArray, vbs_len, Z128_len]
  have e2 : (vbs E).toArray.size = 128 := by rw [List.size_toArray, vbs_len]; exact h
  rw [e1] at h1
  rw [e2]
  exact h1
structure F2 (w : World) (S s : St) (eb : Nat) (E : List (BitVec 8)) (W : World) : Prop where
  bel : Below w.heap.size w W
  b0 : Blk W w.heap.size 100 (stv s).toList
  b1 : Blk W (w.heap.size + 1) 25 (vbs (jk S 0))
  be : Blk W eb 102 (vbs E)
  lt : w.heap.size + 1 < eb
theorem F2.start {ch : St → List (BitVec 8) → St} {w wr w1 : World} {S : St} {R E : List (BitVec 8)} {k : Nat} {A : Option Addr} (h : F1 ch w wr S R k A) (hb : Below wr.heap.size wr w1) (hE : E.length = 128) :
    F2 w S (blocks ch S R k) w1.heap.size E ((w1.alloc (Obj.cells (vbs Z128).toArray 102)).setCells w1.heap.size 0 (vbs E)) := by
  have l1 := h.b1.lt
  have l2 := hb.size
  have hbw : Below w.heap.size w w1 := h.bel.trans (hb.mono h.bel.size)
  refine ⟨below_setCells hbw.size _ _ _ (hbw.alloc hbw.size _), ?_, ?_, ?_, by omega⟩
  · exact Blk.other_setCells (by omega) _ _ _ ((h.b0.below hb h.b0.lt).alloc _)
  · exact Blk.other_setCells (by omega) _ _ _ ((h.b1.below hb h.b1.lt).alloc _)
  · exact (Blk.new w1 102 (vbs Z128).toArray).setCells _ (by rw [vbs_len, hE, List.toList_toArray, vbs_len, Z128_len])
def RelE (w : World) (S s : St) (eb : Nat) (E : List (BitVec 8)) (many : Nat) (i : Value) (W : World) : Prop :=
  ∃ j : Nat, j ≤ many ∧ i = .int .i64 j ∧ F2 w S (blocks ch s E j) eb E W
theorem stv_one (s : St) : (stv s).all (·.oneCell') = true := by simp [stv, Value.oneCell']
theorem RelF.step {ch : St → List (BitVec 8) → St} {w W wr : World} {S : St} {R : List (BitVec 8)} {k n cap b o : Nat} (hn : n = R.length - 64 * k) (hk : 64 * k ≤ R.length) (h64 : 64 ≤ n) (hcap : n ≤ cap) (hb : b < w.heap.size)
    (hc : ∀ j, j < (R.drop (64 * k)).length → wr.cell? ⟨b, o + j, none⟩ = some (.int .u8 (Bt ((R.drop (64 * k)).getD j 0)))) (hw : Below w.heap.size w wr) (hG : FG ch w S R (k + 1) W) :
    RelF ch w S R (.slice (some ⟨b, o + 64, none⟩) (n - 64) (cap - 64)) W := by
  refine ⟨k + 1, some ⟨b, o + 64, none⟩, cap - 64, by omega, by rw [show n - 64 = R.length - 64 * (k + 1) by omega], by omega, ⟨hG.bel, fun hp => ⟨b, o + 64, rfl, hb, fun j hj => ?_⟩, hG.b0, hG.b1⟩⟩
  have e : 64 * (k + 1) + j = 64 * k + (64 + j) := by omega
  rw [List.length_drop] at hj
  have h1 := hc (64 + j) (by rw [List.length_drop]; omega)
  rw [hw.cell (p := ⟨b, o + (64 + j), none⟩) hb] at h1
  rw [hG.bel.cell (p := ⟨b, o + 64 + j, none⟩) hb, Nat.add_assoc, h1]
  simp only [List.getD, List.getElem?_drop, e]
theorem RelF.last {ch : St → List (BitVec 8) → St} {w W : World} {S : St} {R : List (BitVec 8)} {k n : Nat} {A : Option Addr} (hn : n = R.length - 64 * k) (hk : 64 * k ≤ R.length) (h64 : 64 ≤ n) (hcap : n ≤ 64) (hG : FG ch w S R (k + 1) W) :
    RelF ch w S R (.slice A (n - 64) 0) W := by
  refine ⟨k + 1, A, 0, by omega, by rw [show n - 64 = R.length - 64 * (k + 1) by omega], by omega, ⟨hG.bel, fun hp => absurd hp ?_, hG.b0, hG.b1⟩⟩
  rw [List.length_drop]
  omega
set_option maxRecDepth 100000 in
set_option maxHeartbeats 2000000 in
theorem finished_gen (hch : ∀ (s : St) (C : List (BitVec 8)) (w : World), C.length = 64 → (∀ i, i < 64 → w.cell? ⟨1, i, none⟩ = some (.int .u32 (U (KK.getD i 0)))) →
      Calls Tryd.prog 65 #[.agg (stv s), .agg (vbs C).toArray] w fun e w' => e = .returned (.agg (stv (ch s C))) ∧ Below w.heap.size w w') (S : St) (dn cap : Nat) (A : Option Addr) (R : List (BitVec 8)) (w : World) (hR : Rd w w.heap.size A R) (hcap : R.length ≤ cap) (hl : dn + R.length < 1152921504606846976)
    (hK : ∀ i, i < 64 → w.cell? ⟨1, i, none⟩ = some (.int .u32 (U (KK.getD i 0)))) :
    Calls Tryd.prog 57 #[.agg (stv S), .int .u64 dn, .slice A R.length cap] w fun e w' => e = .returned (.agg (vbs (fin ch S dn R)).toArray) ∧ Below w.heap.size w w' := by
  have hz : ∀ w, (zeroValue 25).run Tryd.prog w = .ok (.agg (vbs (jk S 0)).toArray) w := fun _ => by kernel_rfl
  have HRd := Lib.hid hR
  have HK := Lib.hid hK
  have hd0 : (0 : Int) ≤ (dn : Int) := by omega
  have hw1 : IntKind.u64.wrap (R.length : Int) = (R.length : Int) := by rw [IntKind.wrap_u64]; omega
  have hw2 : IntKind.u64.wrap ((dn : Int) + (R.length : Int)) = ((dn + R.length : Nat) : Int) := by rw [IntKind.wrap_u64]; omega
  have HC := Lib.hid hcap
  clear hR hK hcap
  go_enter Tryd.func57, Tryd.ntmps57
  go_upto_region 1 with fail
  have hst : RelF ch w S R (.slice A R.length cap) ((w.alloc (Obj.cells (stv S) 100)).alloc (Obj.cells (vbs (jk S 0)).toArray 25)) := by
    have s1 : (w.alloc (Obj.cells (stv S) 100)).heap.size = w.heap.size + 1 := by simp
    refine ⟨0, A, cap, by omega, rfl, HC.out, ⟨((Below.refl _ _).alloc (Nat.le_refl _) _).alloc (by simp) _, ?_, ?_, ?_⟩⟩
    · exact (HRd.out.alloc (Nat.le_refl _) _).alloc (by simp) _
    · exact (Blk.new w 100 (stv S)).alloc _
    · have := Blk.new (w.alloc (Obj.cells (stv S) 100)) 25 (vbs (jk S 0)).toArray
      rw [s1] at this
      exact this
  have HST := Lib.hid hst
  clear hst hz
  generalize (w.alloc (Obj.cells (stv S) 100)).alloc (Obj.cells (vbs (jk S 0)).toArray 25) = w3 at HST ⊢
  go_wp2_with fail
  go_loopw [2] (fun v wq => RelF ch w S R v wq) (fun v _ => lenOf v)
  case atStart => exact HST.out
  case round =>
    obtain ⟨k, A1, cap1, hk, rfl, hcap, hF⟩ := hrel
    have HF := Lib.hid hF
    by_cases h64 : 64 ≤ R.length - 64 * k
    · obtain ⟨b, o, rfl, hb, hc⟩ := hF.rd (by rw [List.length_drop]; omega)
      have Hc := Lib.hid hc
      have Hb := Lib.hid hb
      have l0 : (0 : Int) ≤ ((R.length - 64 * k : Nat) : Int) := by omega
      have l1 : (64 : Int) ≤ ((R.length - 64 * k : Nat) : Int) := by omega
      obtain ⟨n, hn⟩ : ∃ n, n = R.length - 64 * k := ⟨_, rfl⟩
      have Hn := Lib.hid hn
      rw [← hn] at l0 l1 hcap h64 ⊢
      have hCl : ((R.drop (64 * k)).take 64).length = 64 := by rw [List.length_take, List.length_drop]; omega
      have HCl := Lib.hid hCl
      have hrg : wr.rangeAt b o (vbs ((R.drop (64 * k)).take 64)) := fun j v hv => by
        have hj : j < 64 := by have := (List.getElem?_eq_some_iff.1 hv).1; rwa [vbs_len, hCl] at this
        rw [vbs_at (by rw [hCl]; exact hj)] at hv
        rw [hc j (by rw [List.length_drop]; omega), ← hv]
        simp [List.getD, List.getElem?_take, hj]
      have Hrg := Lib.hid hrg
      clear hF hc hn hb hCl hrg
      go_wp2_with fail
      have haa : ∀ wq, (Instr.arrayAt 56 (.slice (some ⟨b, o, none⟩) n cap1)).run Tryd.prog wq = .ok (.pointer (some ⟨b, o, none⟩)) wq := fun wq => run_arrayAt _ 56 5 64 _ _ _ Tryd.underlying56 h64
      refine wp_calm ?_
      refine wp_region_but (z := 5) (fun w' => w'.rangeAt w.heap.size 0 (stv (blocks ch S R k)).toList ∧ w'.rangeAt b o (vbs ((R.drop (64 * k)).take 64))) (by kernel_rfl) ?_
      have hS : (fun w' : World => w'.rangeAt w.heap.size 0 (stv (blocks ch S R k)).toList ∧ w'.rangeAt b o (vbs ((R.drop (64 * k)).take 64))) wr.drew := ⟨HF.out.b0.range, Hrg.out⟩
      refine AnyBut.take (i := 0) (v := .agg ((stv (blocks ch S R k)).toList).toArray) rfl (by kernel_rfl) (by kernel_rfl) (by kernel_rfl) (by kernel_rfl) (fun _ _ _ h => h) ?_ hS ?_
      · exact yieldsIf_load_mid (by rfl) 100 (.tmp 3) rfl w.heap.size 0 rfl (stv (blocks ch S R k)).toList _ (fun _ h => h.1) Tryd.underlying100 rfl info31
      simp only [Act.put, List.setIfInBounds_toArray, List.set_cons_zero, List.set_cons_succ, List.getElem_toArray, List.getElem_cons_zero, List.getElem_cons_succ]
      refine AnyBut.take (i := 1) (v := ?_) rfl (by kernel_rfl) (by kernel_rfl) (by kernel_rfl) (by kernel_rfl) (fun _ _ _ h => h) (Or.inl ⟨by rfl, ?_⟩) hS ?_
      rotate_left
      · (intro wq hq; obtain ⟨hq1, hq2⟩ := hq; go_simp; try with_reducible rfl)
      simp only [Act.put, List.setIfInBounds_toArray, List.set_cons_zero, List.set_cons_succ, List.getElem_toArray, List.getElem_cons_zero, List.getElem_cons_succ]
      refine AnyBut.take (i := 2) (v := ?_) rfl (by kernel_rfl) (by kernel_rfl) (by kernel_rfl) (by kernel_rfl) (fun _ _ _ h => h) (Or.inl ⟨by rfl, ?_⟩) hS ?_
      rotate_left
      · (intro wq hq; obtain ⟨hq1, hq2⟩ := hq; go_simp; try with_reducible rfl)
      simp only [Act.put, List.setIfInBounds_toArray, List.set_cons_zero, List.set_cons_succ, List.getElem_toArray, List.getElem_cons_zero, List.getElem_cons_succ]
      refine AnyBut.take (i := 3) (v := .agg (vbs ((R.drop (64 * k)).take 64)).toArray) rfl (by kernel_rfl) (by kernel_rfl) (by kernel_rfl) (by kernel_rfl) (fun _ _ _ h => h) ?_ hS ?_
      · exact yieldsIf_load_mid (by rfl) 56 (.tmp 21) rfl b o rfl (vbs ((R.drop (64 * k)).take 64)) _ (fun _ h => h.2) Tryd.underlying56 rfl (info28 HCl.out)
      simp only [Act.put, List.setIfInBounds_toArray, List.set_cons_zero, List.set_cons_succ, List.getElem_toArray, List.getElem_cons_zero, List.getElem_cons_succ]
      have hl1 : 1 < w.heap.size := World.block_lt_of_cell? w _ (HK.out 0 (by omega))
      refine AnyBut.one (i := 4) (by kernel_rfl) rfl rfl (fun K hK => ?_)
      go_simp
      (with_reducible refine (hch (blocks ch S R k) _ _ HCl.out ?_).mono ?_)
      · exact fun i hi => (HF.out.bel.cell (p := ⟨1, i, none⟩) hl1).trans (HK.out i hi)
      rintro e w1 ⟨rfl, hb1⟩
      dsimp only
      have hsz : w.heap.size ≤ wr.drew.heap.size := HF.out.bel.size
      have hbb : Blk w1 w.heap.size 100 (stv (blocks ch S R k)).toList := Blk.below (w := wr.drew) HF.out.b0 hb1 HF.out.b0.lt
      have hS : (fun w' : World => w'.rangeAt w.heap.size 0 (stv (blocks ch S R k)).toList ∧ w'.rangeAt b o (vbs ((R.drop (64 * k)).take 64))) w1 :=
        ⟨hbb.range, fun j v hv => by rw [hb1.cell (p := ⟨b, o + j, none⟩) (Nat.lt_of_lt_of_le Hb.out hsz)]; exact Hrg.out j v hv⟩
      refine hK _ _ (fun _ => hS) ?_
      clear hK K
      try simp only [Act.put, List.setIfInBounds_toArray, List.set_cons_zero, List.set_cons_succ, List.getElem_toArray, List.getElem_cons_zero, List.getElem_cons_succ]
      refine AnyBut.one (i := 5) (by kernel_rfl) rfl rfl (fun K hK => ?_)
      refine wp_store_mid 100 (.tmp 3) (.tmp 23) rfl w.heap.size 0 (stv (blocks ch S R (k + 1))) rfl rfl hbb.there info31 (stv_one _) ?_
      refine hK _ _ (fun h => absurd rfl h) ?_
      clear hK K hS
      refine AnyBut.done (by kernel_rfl) ?_ _
      have hg : FG ch w S R (k + 1) (w1.setCells w.heap.size 0 (stv (blocks ch S R (k + 1))).toList) := by
        have hbel : Below w.heap.size w w1 := (HF.out.bel.drew).trans (hb1.mono hsz)
        exact ⟨below_setCells (Nat.le_refl _) _ _ _ hbel, hbb.setCells _ rfl, Blk.other_setCells (by simp) _ _ _ (Blk.below (w := wr.drew) HF.out.b1 hb1 HF.out.b1.lt)⟩
      clear hbb hb1
      refine fin_step (G := FG ch w S R (k + 1)) hg (fun W8 hG8 => ?_)
      have HG8 := Lib.hid hG8
      clear hG8 hg haa
      have c64 : (64 : Int) ≤ (cap1 : Int) := by omega
      have Hcap := Lib.hid hcap
      have Hk := Lib.hid hk
      clear hcap hk hd0 hw1 hw2 hl
      by_cases hcp : cap1 = 64
      · subst hcp
        go_wp2_with fail
        go_roundw
        case rel => exact RelF.last Hn.out Hk.out h64 Hcap.out HG8.out
        case measure => simp only [lenOf]; omega
      · go_wp2_with fail
        go_roundw
        case rel => exact RelF.step Hn.out Hk.out h64 Hcap.out Hb.out Hc.out HF.out.bel HG8.out
        case measure => simp only [lenOf]; omega
    · have HKQ := Lib.hid (show k = R.length / 64 ∧ R.length - 64 * k = R.length % 64 by omega)
      have hz : ∀ w, (zeroValue 102).run Tryd.prog w = .ok (.agg (vbs Z128).toArray) w := fun _ => by kernel_rfl
      have hpad := padded_any A1 cap1 (dn + R.length) (R.drop (64 * k)) wr (fun hp => by
        obtain ⟨b, o, e, hb, hc⟩ := hF.rd hp
        exact ⟨b, o, e, Nat.lt_of_lt_of_le hb hF.bel.size, hc⟩) (by rw [List.length_drop]; omega) (by omega)
      rw [List.length_drop, Int.natCast_add] at hpad
      have HP := Lib.hid hpad
      have l2 : ((R.length - 64 * k : Nat) : Int) < 64 := by omega
      have hEl : (padEnd (R.drop (64 * k)) (dn + R.length)).length = 128 := padEnd_len _ _ (by rw [List.length_drop]; omega)
      have HEl := Lib.hid hEl
      clear hF hpad hEl
      obtain ⟨n, hn⟩ : ∃ n, n = R.length - 64 * k := ⟨_, rfl⟩
      have Hn := Lib.hid hn
      rw [← hn] at l2 HP hcap h64 ⊢
      clear hn
      go_upto_region 6 with (first | (go_at_call 66; (with_reducible refine HP.out.mono ?_); rintro e w1 ⟨rfl, hb1⟩; dsimp only) | (with_reducible refine wpList_store_mid rfl 102 (.tmp 8) (.tmp 30) rfl w1.heap.size 0 (vbs (padEnd (R.drop (64 * k)) (dn + R.length))).toArray rfl rfl (there_new0 w1 HEl.out) (info_arr (i55 (by rw [vbs_len]; exact HEl.out))) (all_oneCell_toArray (vbs_one _)) ?_))
      have hg := F2.start (E := padEnd (R.drop (64 * k)) (dn + R.length)) HF.out hb1 HEl.out
      have heb : w.heap.size + 1 < w1.heap.size := hg.lt
      generalize (w1.alloc (Obj.cells (vbs Z128).toArray 102)).setCells w1.heap.size 0 (vbs (padEnd (R.drop (64 * k)) (dn + R.length))) = W2 at hg ⊢
      generalize w1.heap.size = eb at hg heb ⊢
      clear hb1 hz hw1 hw2 hcap l2 HP
      obtain ⟨many, hmany⟩ : ∃ many, many = manyOf n := ⟨_, rfl⟩
      have Hm := Lib.hid hmany
      obtain ⟨E, hE⟩ : ∃ E, E = padEnd (R.drop (64 * k)) (dn + R.length) := ⟨_, rfl⟩
      have HE2 := Lib.hid hE
      rw [← hmany, ← hE]
      rw [← hE] at hg
      have Hg := Lib.hid hg
      clear hmany hE hg
      have hEl2 : Hid (E.length = 128) := by rw [HE2.out]; exact HEl.out
      have hmm : Hid (many ≤ 2) := by rw [Hm.out]; unfold manyOf; split <;> (show _ ≤ _; omega)
      have m0 : (0 : Int) ≤ (many : Int) := by omega
      have m1 : (many : Int) ≤ 2 := by have := hmm.out; omega
      have hl1 : 1 < w.heap.size := World.block_lt_of_cell? w _ (HK.out 0 (by omega))
      go_wp2_with fail
      go_loopw [33] (fun i wq => RelE ch w S (blocks ch S R k) eb E many i wq) (fun i _ => many - (intOf i).toNat)
      case atStart => exact ⟨0, Nat.zero_le _, rfl, Hg.out⟩
      case round =>
        obtain ⟨j, hj, rfl, hF⟩ := hrel
        have HF2 := Lib.hid hF
        clear hF
        by_cases hlt : j < many
        · have j2 : j < 2 := Nat.lt_of_lt_of_le hlt hmm.out
          have j0 : (0 : Int) ≤ (j : Int) := by omega
          have j1 : (j : Int) < (many : Int) := by omega
          have j3 : (j : Int) < 2 := by omega
          have hw64 : IntKind.i64.wrap (64 * (j : Int)) = 64 * (j : Int) := IntWalk.i64_in _ (by omega)
          have hsl : ∀ wq, (Instr.sliceAt 102 (.pointer (some ⟨eb, 0, none⟩)) (some (.int .i64 (64 * (j : Int)))) none none).run Tryd.prog wq = .ok (.slice (some ⟨eb, 64 * j, none⟩) (128 - 64 * j) (128 - 64 * j)) wq := fun wq => slice55l eb j wq j2
          have haa : ∀ wq, (Instr.arrayAt 56 (.slice (some ⟨eb, 64 * j, none⟩) (128 - 64 * j) (128 - 64 * j))).run Tryd.prog wq = .ok (.pointer (some ⟨eb, 64 * j, none⟩)) wq := fun wq => run_arrayAt _ 56 5 64 _ _ _ Tryd.underlying56 (by omega)
          have HCl := Lib.hid (show ((E.drop (64 * j)).take 64).length = 64 by rw [List.length_take, List.length_drop, hEl2.out]; omega)
          have Hrg := Lib.hid (show wr.rangeAt eb (64 * j) (vbs ((E.drop (64 * j)).take 64)) from fun i v hv => by
            have hi : i < 64 := by have := (List.getElem?_eq_some_iff.1 hv).1; rwa [vbs_len, HCl.out] at this
            rw [vbs_at (by rw [HCl.out]; exact hi)] at hv
            rw [HF2.out.be.cell (vbs_at (l := E) (j := 64 * j + i) (by rw [hEl2.out]; omega)), ← hv]
            simp [List.getD, List.getElem?_take, hi])
          go_wp2_with fail
          refine wp_calm_any ?_
          refine wp_region_but (z := 7) (fun w' => w'.rangeAt w.heap.size 0 (stv (blocks ch (blocks ch S R k) E j)).toList ∧ w'.rangeAt eb (64 * j) (vbs ((E.drop (64 * j)).take 64))) (by kernel_rfl) ?_
          have hS : (fun w' : World => w'.rangeAt w.heap.size 0 (stv (blocks ch (blocks ch S R k) E j)).toList ∧ w'.rangeAt eb (64 * j) (vbs ((E.drop (64 * j)).take 64))) wr.drew := ⟨HF2.out.b0.range, Hrg.out⟩
          refine AnyBut.take (i := 0) (v := .agg ((stv (blocks ch (blocks ch S R k) E j)).toList).toArray) rfl (by kernel_rfl) (by kernel_rfl) (by kernel_rfl) (by kernel_rfl) (fun _ _ _ h => h) ?_ hS ?_
          · exact yieldsIf_load_mid (by rfl) 100 (.tmp 3) rfl w.heap.size 0 rfl (stv (blocks ch (blocks ch S R k) E j)).toList _ (fun _ h => h.1) Tryd.underlying100 rfl info31
          simp only [Act.put, List.setIfInBounds_toArray, List.set_cons_zero, List.set_cons_succ, List.getElem_toArray, List.getElem_cons_zero, List.getElem_cons_succ]
          refine AnyBut.take (i := 1) (v := ?_) rfl (by kernel_rfl) (by kernel_rfl) (by kernel_rfl) (by kernel_rfl) (fun _ _ _ h => h) (Or.inl ⟨by rfl, ?_⟩) hS ?_
          rotate_left
          · (intro wq hq; obtain ⟨hq1, hq2⟩ := hq; go_simp; try with_reducible rfl)
          simp only [Act.put, List.setIfInBounds_toArray, List.set_cons_zero, List.set_cons_succ, List.getElem_toArray, List.getElem_cons_zero, List.getElem_cons_succ]
          refine AnyBut.take (i := 2) (v := ?_) rfl (by kernel_rfl) (by kernel_rfl) (by kernel_rfl) (by kernel_rfl) (fun _ _ _ h => h) (Or.inl ⟨by rfl, ?_⟩) hS ?_
          rotate_left
          · (intro wq hq; obtain ⟨hq1, hq2⟩ := hq; go_simp; try with_reducible rfl)
          simp only [Act.put, List.setIfInBounds_toArray, List.set_cons_zero, List.set_cons_succ, List.getElem_toArray, List.getElem_cons_zero, List.getElem_cons_succ]
          refine AnyBut.take (i := 3) (v := ?_) rfl (by kernel_rfl) (by kernel_rfl) (by kernel_rfl) (by kernel_rfl) (fun _ _ _ h => h) (Or.inl ⟨by rfl, ?_⟩) hS ?_
          rotate_left
          · (intro wq hq; obtain ⟨hq1, hq2⟩ := hq; go_simp; try with_reducible rfl)
          simp only [Act.put, List.setIfInBounds_toArray, List.set_cons_zero, List.set_cons_succ, List.getElem_toArray, List.getElem_cons_zero, List.getElem_cons_succ]
          refine AnyBut.take (i := 4) (v := ?_) rfl (by kernel_rfl) (by kernel_rfl) (by kernel_rfl) (by kernel_rfl) (fun _ _ _ h => h) (Or.inl ⟨by rfl, ?_⟩) hS ?_
          rotate_left
          · (intro wq hq; obtain ⟨hq1, hq2⟩ := hq; go_simp; try with_reducible rfl)
          simp only [Act.put, List.setIfInBounds_toArray, List.set_cons_zero, List.set_cons_succ, List.getElem_toArray, List.getElem_cons_zero, List.getElem_cons_succ]
          refine AnyBut.take (i := 5) (v := .agg ((vbs ((E.drop (64 * j)).take 64))).toArray) rfl (by kernel_rfl) (by kernel_rfl) (by kernel_rfl) (by kernel_rfl) (fun _ _ _ h => h) ?_ hS ?_
          · exact yieldsIf_load_mid (by rfl) 56 (.tmp 40) rfl eb (64 * j) rfl (vbs ((E.drop (64 * j)).take 64)) _ (fun _ h => h.2) Tryd.underlying56 rfl (info28 HCl.out)
          simp only [Act.put, List.setIfInBounds_toArray, List.set_cons_zero, List.set_cons_succ, List.getElem_toArray, List.getElem_cons_zero, List.getElem_cons_succ]
          refine AnyBut.one (i := 6) (by kernel_rfl) rfl rfl (fun K hK => ?_)
          go_simp
          (with_reducible refine (hch (blocks ch (blocks ch S R k) E j) _ _ HCl.out ?_).mono ?_)
          · exact fun i hi => (HF2.out.bel.cell (p := ⟨1, i, none⟩) hl1).trans (HK.out i hi)
          rintro e w5 ⟨rfl, hb1⟩
          dsimp only
          have hsz : w.heap.size ≤ wr.drew.heap.size := HF2.out.bel.size
          have hbb : Blk w5 w.heap.size 100 (stv (blocks ch (blocks ch S R k) E j)).toList := Blk.below (w := wr.drew) HF2.out.b0 hb1 HF2.out.b0.lt
          have hbe : Blk w5 eb 102 (vbs E) := Blk.below (w := wr.drew) HF2.out.be hb1 HF2.out.be.lt
          have hS : (fun w' : World => w'.rangeAt w.heap.size 0 (stv (blocks ch (blocks ch S R k) E j)).toList ∧ w'.rangeAt eb (64 * j) (vbs ((E.drop (64 * j)).take 64))) w5 :=
            ⟨hbb.range, fun i v hv => by rw [hb1.cell (p := ⟨eb, 64 * j + i, none⟩) HF2.out.be.lt]; exact Hrg.out i v hv⟩
          refine hK _ _ (fun _ => hS) ?_
          clear hK K
          try simp only [Act.put, List.setIfInBounds_toArray, List.set_cons_zero, List.set_cons_succ, List.getElem_toArray, List.getElem_cons_zero, List.getElem_cons_succ]
          refine AnyBut.one (i := 7) (by kernel_rfl) rfl rfl (fun K hK => ?_)
          refine wp_store_mid 100 (.tmp 3) (.tmp 42) rfl w.heap.size 0 (stv (blocks ch (blocks ch S R k) E (j + 1))) rfl rfl hbb.there info31 (stv_one _) ?_
          refine hK _ _ (fun h => absurd rfl h) ?_
          clear hK K hS
          refine AnyBut.done (by kernel_rfl) ?_ _
          have hg : F2 w S (blocks ch (blocks ch S R k) E (j + 1)) eb E (w5.setCells w.heap.size 0 (stv (blocks ch (blocks ch S R k) E (j + 1))).toList) := by
            have hbel : Below w.heap.size w w5 := (HF2.out.bel.drew).trans (hb1.mono hsz)
            exact ⟨below_setCells (Nat.le_refl _) _ _ _ hbel, hbb.setCells _ rfl, Blk.other_setCells (by simp) _ _ _ (Blk.below (w := wr.drew) HF2.out.b1 hb1 HF2.out.b1.lt), Blk.other_setCells (by have := HF2.out.lt; omega) _ _ _ hbe, HF2.out.lt⟩
          clear hbb hb1 hbe
          refine fin_step (G := F2 w S (blocks ch (blocks ch S R k) E (j + 1)) eb E) hg (fun W8 hG8 => ?_)
          have HG8 := Lib.hid hG8
          clear hG8 hg haa hsl hw64
          dsimp only [Exit.then]
          go_wp2_with fail
          go_roundw
          case rel => exact ⟨j + 1, by omega, by go_num, HG8.out⟩
          case measure => simp [intOf]; omega
        · obtain rfl : j = many := by omega
          have e1 : fin ch S dn R = joinB (blocks ch (blocks ch S R k) E j) := by
            unfold fin
            rw [Hm.out, HE2.out, Hn.out, HKQ.out.2, ← HKQ.out.1]
          have HE1 := Lib.hid e1
          have hJ := joined_any (blocks ch (blocks ch S R k) E j)
          have HJ := Lib.hid hJ
          have hlen : (vbs (joinB (blocks ch (blocks ch S R k) E j))).length = 32 := by rw [vbs_len, joinB_len]
          have HI := Lib.hid (i25 hlen)
          have Hlen := Lib.hid hlen
          have Hr0 := Lib.hid HF2.out.b0.range
          clear e1 hJ hlen
          have Hst := Lib.hid (fun (w6 : World) (hb6 : Below wr.heap.size wr w6) => (Blk.below HF2.out.b1 hb6 HF2.out.b1.lt).there)
          go_wp2_with (first | (with_reducible refine wpList_load_mid rfl 100 (.tmp 3) rfl w.heap.size 0 rfl (stv (blocks ch (blocks ch S R k) E j)).toList _ Hr0.out Tryd.underlying100 rfl info31 ?_) | (go_at_call 67; (refine (HJ.out _).mono ?_); rintro e w6 ⟨rfl, hb6⟩; dsimp only) | (with_reducible refine wpList_store_mid rfl 25 (.tmp 6) (.tmp 45) rfl (w.heap.size + 1) 0 (vbs (joinB (blocks ch (blocks ch S R k) E j))).toArray rfl rfl (there_arr2 (Hst.out w6 hb6) Hlen.out) (info_arr HI.out) (all_oneCell_toArray (vbs_one _)) ?_))
          have hB1 := (Blk.below HF2.out.b1 hb6 HF2.out.b1.lt).setCells (vbs (joinB (blocks ch (blocks ch S R k) E j))) (by rw [Hlen.out, vbs_len, jk_len])
          have hSb := below_setCells (Nat.le_succ w.heap.size) (vbs (joinB (blocks ch (blocks ch S R k) E j))) 0 w6 (HF2.out.bel.trans (hb6.mono HF2.out.bel.size))
          generalize w6.setCells (w.heap.size + 1) 0 (vbs (joinB (blocks ch (blocks ch S R k) E j))) = W9 at hB1 hSb
          exact bodyPost_ret (v := .agg (vbs (joinB (blocks ch (blocks ch S R k) E j))).toArray) (results_cell_row Tryd.results57 _ W9 (w.heap.size + 1) 25 (vbs (joinB (blocks ch (blocks ch S R k) E j))).toArray (0, 0) _ rfl hB1 Tryd.underlying25 rfl (info_arr HI.out)) rfl ⟨by rw [HE1.out], hSb⟩
end
/-- The digest's bytes of a text: so many bytes have led to S, R is what follows them. -/
def finB (S : St) (dn : Nat) (R : List (BitVec 8)) : List (BitVec 8) := fin change S dn R
theorem finished_any (S : St) (dn cap : Nat) (A : Option Addr) (R : List (BitVec 8)) (w : World) (hR : Rd w w.heap.size A R) (hcap : R.length ≤ cap) (hl : dn + R.length < 1152921504606846976)
    (hK : ∀ i, i < 64 → w.cell? ⟨1, i, none⟩ = some (.int .u32 (U (KK.getD i 0)))) :
    Calls Tryd.prog 57 #[.agg (stv S), .int .u64 dn, .slice A R.length cap] w fun e w' => e = .returned (.agg (vbs (finB S dn R)).toArray) ∧ Below w.heap.size w w' :=
  finished_gen change changed_any S dn cap A R w hR hcap hl hK
open Go.RowKit
set_option linter.unusedVariables false
set_option linter.unusedSimpArgs false
/-- The initial state. -/
def ini : St := ⟨1779033703, 3144134277, 1013904242, 2773480762, 1359893119, 2600822924, 528734635, 1541459225⟩
/-- What the two tables hold. -/
structure Glob (w : World) : Prop where
  i : w.rangeAt 0 0 (stv ini).toList
  k : ∀ i, i < 64 → w.cell? ⟨1, i, none⟩ = some (.int .u32 (U (KK.getD i 0)))
theorem Glob.lt1 {w : World} (h : Glob w) : 1 < w.heap.size := World.block_lt_of_cell? w _ (h.k 0 (by omega))
theorem Glob.below {w w' : World} (h : Glob w) (hb : Below w.heap.size w w') : Glob w' :=
  ⟨fun j v hv => by rw [hb.cell (p := ⟨0, 0 + j, none⟩) (by have := h.lt1; show 0 < _; omega)]; exact h.i j v hv, fun i hi => by rw [hb.cell (p := ⟨1, i, none⟩) h.lt1]; exact h.k i hi⟩
/-- The digest of R, its bytes. -/
def sumB (R : List (BitVec 8)) : List (BitVec 8) := finB ini 0 R
theorem finB_len (S : St) (dn : Nat) (R : List (BitVec 8)) : (finB S dn R).length = 32 := joinB_len _
theorem sumB_len (R : List (BitVec 8)) : (sumB R).length = 32 := joinB_len _
theorem Z32_len : Z32.length = 32 := List.length_replicate
theorem info30 {s : St} : (Tryd.prog.info? 88).map (·.size) = some (stv s).toList.length := by kernel_rfl
theorem there_new25 (w : World) {E : List (BitVec 8)} (h : E.length = 32) : (w.alloc (Obj.cells (vbs Z32).toArray 25)).there w.heap.size 0 (vbs E).toArray.size := by
  have h1 := (Blk.new w 25 (vbs Z32).toArray).there
  have e1 : (vbs Z32).toArray.toList.length = 32 := by rw [List.toList_toArray, vbs_len, Z32_len]
  have e2 : (vbs E).toArray.size = 32 := by rw [List.size_toArray, vbs_len]; exact h
  rw [e1] at h1
  rw [e2]
  exact h1
theorem there_below {w w' : World} {b o n : Nat} (h : w.there b o n) (hb : Below w.heap.size w w') (hl : b < w.heap.size) : w'.there b o n := fun j hj => by
  rw [hb.cell (p := ⟨b, o + j, none⟩) hl, hb.frozen (p := ⟨b, o + j, none⟩) hl]; exact h j hj
theorem there_z {w : World} {b : Nat} {T : TypeId} {E : List (BitVec 8)} (h : Blk w b T (vbs Z32).toArray.toList) (hE : E.length = 32) : w.there b 0 (vbs E).toArray.size := by
  have h1 := h.there
  have e1 : (vbs Z32).toArray.toList.length = 32 := by rw [List.toList_toArray, vbs_len, Z32_len]
  have e2 : (vbs E).toArray.size = 32 := by rw [List.size_toArray, vbs_len]; exact hE
  rw [e1] at h1
  rw [e2]
  exact h1
theorem i25v {E : List (BitVec 8)} (h : E.length = 32) : (Tryd.prog.info? 25).map (·.size) = some (vbs E).toArray.size := info_arr (i25 (by rw [vbs_len]; exact h))
set_option maxRecDepth 100000 in
set_option maxHeartbeats 1000000 in
theorem sum_any (A : Option Addr) (cap : Nat) (R : List (BitVec 8)) (w : World) (hG : Glob w) (hR : Rd w w.heap.size A R) (hcap : R.length ≤ cap) (hl : R.length < 1152921504606846976) :
    Calls Tryd.prog 49 #[.slice A R.length cap] w fun e w' => e = .returned (.agg (vbs (sumB R)).toArray) ∧ Below w.heap.size w w' := by
  have hz : ∀ w, (zeroValue 25).run Tryd.prog w = .ok (.agg (vbs Z32).toArray) w := fun _ => by kernel_rfl
  have hb0 : Below w.heap.size w (w.alloc (Obj.cells (vbs Z32).toArray 25)) := (Below.refl _ _).alloc (Nat.le_refl _) _
  have HG := Lib.hid (hG.below hb0)
  have HF := Lib.hid (finished_any ini 0 cap A R (w.alloc (Obj.cells (vbs Z32).toArray 25)) (fun hp => by
    obtain ⟨b, o, e, hlt, hc⟩ := (Rd.keep hR hb0) hp
    exact ⟨b, o, e, by simp; omega, hc⟩) hcap (by omega) HG.out.k)
  have HS := Lib.hid (fun w1 (hb1 : Below (w.alloc (Obj.cells (vbs Z32).toArray 25)).heap.size (w.alloc (Obj.cells (vbs Z32).toArray 25)) w1) => there_below (there_new25 w (sumB_len R)) hb1 (by simp))
  have HB := Lib.hid hb0
  clear hG hR hcap hl hb0
  go_enter Tryd.func49, Tryd.ntmps49
  go_wp2_with (first | (with_reducible refine wpList_load_mid rfl 88 (.global 0) rfl 0 0 rfl (stv ini).toList _ HG.out.i Tryd.underlying88 rfl info30 ?_) | (go_at_call 57; (refine HF.out.mono ?_); rintro e w1 ⟨rfl, hb1⟩; dsimp only) | (with_reducible refine wpList_store_mid rfl 25 (.tmp 2) (.tmp 5) rfl w.heap.size 0 (vbs (sumB R)).toArray rfl rfl (HS.out w1 hb1) (i25v (sumB_len R)) (all_oneCell_toArray (vbs_one _)) ?_))
  have hB1 := (Blk.below (Blk.new w 25 (vbs Z32).toArray) hb1 (by simp)).setCells (vbs (sumB R)) (by rw [vbs_len, sumB_len, List.toList_toArray, vbs_len, Z32_len])
  have hSb := below_setCells (Nat.le_refl w.heap.size) (vbs (sumB R)) 0 w1 (HB.out.trans (hb1.mono (by simp)))
  generalize w1.setCells w.heap.size 0 (vbs (sumB R)) = W9 at hB1 hSb
  exact bodyPost_ret (v := .agg (vbs (sumB R)).toArray) (results_cell_row Tryd.results49 _ W9 w.heap.size 25 (vbs (sumB R)).toArray (0, 0) _ rfl hB1 Tryd.underlying25 rfl (i25v (sumB_len R))) rfl ⟨rfl, hSb⟩
/-- The double digest. -/
def twiceB (R : List (BitVec 8)) : List (BitVec 8) := sumB (sumB R)
theorem slice25 (b : Nat) (w : World) : (Instr.sliceAt 25 (.pointer (some ⟨b, 0, none⟩)) none none none).run Tryd.prog w = .ok (.slice (some ⟨b, 0, none⟩) 32 32) w := by
  rw [run_sliceAt_array_all w 25 _ (by kernel_rfl)]
  have hs : (sizeOf (Tryd.prog.elem 25)).run Tryd.prog w = .ok 1 w := by kernel_rfl
  have hl : Tryd.prog.arrayLen 25 = 32 := by kernel_rfl
  rw [hs, hl]
  rfl
theorem Rd.of_blk {w : World} {b : Nat} {T : TypeId} {R : List (BitVec 8)} (h : Blk w b T (vbs R)) : Rd w w.heap.size (some ⟨b, 0, none⟩) R := fun _ =>
  ⟨b, 0, rfl, h.lt, fun j hj => by rw [Nat.zero_add]; exact h.cell (vbs_at hj)⟩
/-- A block of 32 bytes, laid and filled. -/
theorem Blk.laid (w : World) {E : List (BitVec 8)} (h : E.length = 32) : Blk ((w.alloc (Obj.cells (vbs Z32).toArray 25)).setCells w.heap.size 0 (vbs E)) w.heap.size 25 (vbs E) :=
  (Blk.new w 25 (vbs Z32).toArray).setCells _ (by rw [vbs_len, h, List.toList_toArray, vbs_len, Z32_len])
theorem Below.laid {w0 w : World} {B : Nat} (hb : Below B w0 w) (hB : B ≤ w.heap.size) (E : List Value) : Below B w0 ((w.alloc (Obj.cells (vbs Z32).toArray 25)).setCells w.heap.size 0 E) :=
  below_setCells hB _ _ _ (hb.alloc hB _)
set_option maxRecDepth 100000 in
set_option maxHeartbeats 1000000 in
theorem twice_any (A : Option Addr) (cap : Nat) (R : List (BitVec 8)) (w : World) (hG : Glob w) (hR : Rd w w.heap.size A R) (hcap : R.length ≤ cap) (hl : R.length < 1152921504606846976) :
    Calls Tryd.prog 37 #[.slice A R.length cap] w fun e w' => e = .returned (.agg (vbs (twiceB R)).toArray) ∧ Below w.heap.size w w' := by
  have hz : ∀ w, (zeroValue 25).run Tryd.prog w = .ok (.agg (vbs Z32).toArray) w := fun _ => by kernel_rfl
  have hb0 : Below w.heap.size w (w.alloc (Obj.cells (vbs Z32).toArray 25)) := (Below.refl _ _).alloc (Nat.le_refl _) _
  have HG := Lib.hid (hG.below hb0)
  have HF := Lib.hid (sum_any A cap R (w.alloc (Obj.cells (vbs Z32).toArray 25)) HG.out (fun hp => by
    obtain ⟨b, o, e, hlt, hc⟩ := (Rd.keep hR hb0) hp
    exact ⟨b, o, e, by simp; omega, hc⟩) hcap (by omega))
  have HB0 := Lib.hid (Blk.new w 25 (vbs Z32).toArray)
  have HB := Lib.hid hb0
  clear hG hR hcap hl hb0
  go_enter Tryd.func37, Tryd.ntmps37
  go_upto_region 2 with (first | (go_at_call 49; (refine HF.out.mono ?_); rintro e w1 ⟨rfl, hb1⟩; dsimp only) | (with_reducible refine wpList_store_mid rfl 25 (.tmp 3) (.tmp 5) rfl w1.heap.size 0 (vbs (sumB R)).toArray rfl rfl (there_new25 w1 (sumB_len R)) (i25v (sumB_len R)) (all_oneCell_toArray (vbs_one _)) ?_))
  have hg1 : Blk ((w1.alloc (Obj.cells (vbs Z32).toArray 25)).setCells w1.heap.size 0 (vbs (sumB R))) w1.heap.size 25 (vbs (sumB R)) := Blk.laid w1 (sumB_len R)
  have hbb : Below (w.alloc (Obj.cells (vbs Z32).toArray 25)).heap.size (w.alloc (Obj.cells (vbs Z32).toArray 25)) ((w1.alloc (Obj.cells (vbs Z32).toArray 25)).setCells w1.heap.size 0 (vbs (sumB R))) := Below.laid hb1 hb1.size _
  generalize (w1.alloc (Obj.cells (vbs Z32).toArray 25)).setCells w1.heap.size 0 (vbs (sumB R)) = W2 at hg1 hbb ⊢
  generalize w1.heap.size = fb at hg1 ⊢
  have hs2 := sum_any (some ⟨fb, 0, none⟩) 32 (sumB R) W2 (HG.out.below hbb) (Rd.of_blk hg1) (by rw [sumB_len]; omega) (by rw [sumB_len]; omega)
  rw [sumB_len] at hs2
  have HS2 := Lib.hid hs2
  have hsl := slice25 fb W2
  have HT := Lib.hid (fun w3 (hb3 : Below W2.heap.size W2 w3) => (Blk.below (Blk.below HB0.out hbb (by simp)) hb3 (by have := hbb.size; simp at this; omega)))
  have HBB := Lib.hid hbb
  clear hg1 hbb hb1 hs2 hz
  go_wp2_with (first | (go_at_call 49; (refine HS2.out.mono ?_); rintro e w3 ⟨rfl, hb3⟩; dsimp only) | (with_reducible refine wpList_store_mid rfl 25 (.tmp 2) (.tmp 7) rfl w.heap.size 0 (vbs (sumB (sumB R))).toArray rfl rfl (there_z (HT.out w3 hb3) (sumB_len _)) (i25v (sumB_len _)) (all_oneCell_toArray (vbs_one _)) ?_))
  have hB1 := (HT.out w3 hb3).setCells (vbs (sumB (sumB R))) (by rw [vbs_len, sumB_len, vbs_len, Z32_len])
  have hSb := below_setCells (Nat.le_refl w.heap.size) (vbs (sumB (sumB R))) 0 w3 (HB.out.trans ((HBB.out.trans (hb3.mono HBB.out.size)).mono (by simp)))
  generalize w3.setCells w.heap.size 0 (vbs (sumB (sumB R))) = W9 at hB1 hSb
  exact bodyPost_ret (v := .agg (vbs (sumB (sumB R))).toArray) (results_cell_row Tryd.results37 _ W9 w.heap.size 25 (vbs (sumB (sumB R))).toArray (0, 0) _ rfl hB1 Tryd.underlying25 rfl (i25v (sumB_len _))) rfl ⟨rfl, hSb⟩
end Go.Proofs.YtihbmahjdmfjpaaDoor
