/- What the document's side answers: Root. -/
import Derived.Test.YtihbmahjdmfjpaaDoorPb
import Derived.Test.YtihbmahjdmfjpaaDoorFj
import Derived.Test.YtihbmahjdmfjpaaDoorFu
import Derived.Test.YtihbmahjdmfjpaaDoorPc
import Derived.Outline
import Derived.StillTailTactics
namespace Go.Proofs.YtihbmahjdmfjpaaDoor
open Go.RowKit
set_option linter.unusedVariables false
set_option linter.unusedSimpArgs false
set_option maxRecDepth 100000
variable {tw : List (BitVec 8) → List (BitVec 8)}
def RpI (M : List (List (BitVec 8))) (d d' : Bool) (k : Nat) : Prop := d' = true ↔ (d = true ∨ ∃ j, j < k ∧ repAt M j = true)
theorem RpI.all {M : List (List (BitVec 8))} {d d' : Bool} {k n : Nat} (h : RpI M d d' k) (hn : M.length = n) (hk : ¬ 2 * k + 1 < n) : d' = (d || repB M) := by
  have hr : repB M = true ↔ ∃ j, j < k ∧ repAt M j = true := by
    constructor
    · intro hb
      unfold repB at hb
      rw [List.any_eq_true] at hb
      obtain ⟨j, _, hj⟩ := hb
      refine ⟨j, ?_, hj⟩
      unfold repAt at hj
      simp at hj
      omega
    · rintro ⟨j, _, hj⟩
      exact repB_of hj
  have h2 : d' = true ↔ (d = true ∨ repB M = true) := by rw [hr]; exact h
  cases d <;> cases d' <;> cases hb : repB M <;> rw [hb] at h2 <;> simp at h2 ⊢
theorem RpI.step {M : List (List (BitVec 8))} {d d' : Bool} {k : Nat} (h : RpI M d d' k) : RpI M d (d' || repAt M k) (k + 1) := by
  unfold RpI at h ⊢
  rw [Bool.or_eq_true, h]
  constructor
  · rintro ((h1 | ⟨j, h1, h2⟩) | h3)
    · exact .inl h1
    · exact .inr ⟨j, by omega, h2⟩
    · exact .inr ⟨k, by omega, h3⟩
  · rintro (h1 | ⟨j, h1, h2⟩)
    · exact .inl (.inl h1)
    · rcases Nat.lt_or_ge j k with h | h
      · exact .inl (.inr ⟨j, h, h2⟩)
      · obtain rfl : j = k := by omega
        exact .inr h2
theorem mut_one (x : List (BitVec 8)) : mutT tw [x] = false := by
  show mutK tw [x] (nrow 1) = false
  rw [nrow_lo (by omega)]
  simp [mutK, rowN, repB, repAt]
def RoR (tw : List (BitVec 8) → List (BitVec 8)) (R : List (BitVec 8)) (q : Bool) (w : World) (av mv : Value) (wr : World) : Prop :=
  ∃ (A : Option Addr) (n c : Nat) (M : List (List (BitVec 8))) (d : Bool), av = .slice A n c ∧ mv = .bool d ∧ RdN 32 wr A n c M ∧ 0 < n ∧ n ≤ 100000 ∧ HBx wr w.heap.size Z32 ∧ Below w.heap.size w wr ∧ rootT tw M = R ∧ (d || mutT tw M) = q
def RoN (M : List (List (BitVec 8))) (n : Nat) (d : Bool) (w : World) (mv iv : Value) (wr : World) : Prop :=
  ∃ (k : Nat) (d' : Bool), 2 * k ≤ n + 1 ∧ iv = .int .i64 ((2 * k : Nat) : Int) ∧ mv = .bool d' ∧ Below w.heap.size w wr ∧ RpI M d d' k
set_option maxHeartbeats 8000000 in
theorem rroot_any (T : RwC tw) (A : Option Addr) (n c : Nat) (L : List (List (BitVec 8))) (w : World) (hR : RdN 32 w A n c L) (hn : n ≤ 100000) :
    Calls Tryd.prog 12 #[.slice A n c] w (RootPost tw L w) := by
  have hz := zero25
  have HT := Lib.hid T
  have HR := Lib.hid hR
  have hbel : Below w.heap.size w (w.alloc (.cells (vbs Z32).toArray 25)) := (Below.refl _ _).alloc (Nat.le_refl _) _
  have H0 := Lib.hid (HBx.new w Z32 rfl)
  have HB := Lib.hid hbel
  clear T hR hbel
  by_cases h0 : n = 0
  · subst h0
    have hL : L = [] := List.eq_nil_of_length_eq_zero HR.out.num
    subst hL
    have HB0 := Lib.hid built_0
    have e1 : rootT tw [] = Z32 := by show rootK tw [] (nrow 0) = Z32; rw [nrow_lo (by omega)]; rfl
    have e2 : mutT tw [] = false := by show mutK tw [] (nrow 0) = false; rw [nrow_lo (by omega)]; rfl
    unfold RootPost
    rw [e1, e2]
    have KTf := Lib.hid (H0.out.kt Z32_len)
    have IAf := Lib.hid (i25a Z32_len)
    have Bf := Lib.hid (H0.out.set Z32_len)
    have BBf := Lib.hid (below_setCells (B := w.heap.size) (b := w.heap.size) (Nat.le_refl _) (vbs Z32) 0 _ HB.out)
    go_enter Tryd.func12, Tryd.ntmps12
    go_wp2_with (first
      | ((with_reducible show wpList _ _ _ ((⟨some 9, _, _, _, _, _⟩ : Oper) :: _) _ _); refine wpList_hash rfl _ rfl [] Z32 rfl HB0.out ?_)
      | ((with_reducible show wpList _ _ _ ((⟨none, _, _, _, _, _⟩ : Oper) :: _) _ _); with_reducible refine wpList_store_mid rfl 25 (.tmp 2) (.tmp 9) rfl w.heap.size 0 (vbs Z32).toArray rfl rfl KTf.out IAf.out (all_oneCell_toArray (vbs_one _)) ?_))
    have hlv := run_loadVar_mid (P := Tryd.prog) ((w.alloc (.cells (vbs Z32).toArray 25)).setCells w.heap.size 0 (vbs Z32)) w.heap.size 0 25 _ _ Bf.out.1.range Tryd.underlying25 rfl Bf.out.inf
    exact bodyPost_ret (v := .tuple #[.agg (vbs Z32).toArray, .bool false]) (by simp [results, Tryd.results12, asAddr, Act.put, hlv]) rfl ⟨rfl, Z32_len, BBf.out⟩
  have hne : ((n : Int) == 0) = false := by simp; omega
  obtain ⟨R, hRR⟩ : ∃ R, R = rootT tw L := ⟨_, rfl⟩
  obtain ⟨q, hq⟩ : ∃ q, q = mutT tw L := ⟨_, rfl⟩
  unfold RootPost
  rw [← hRR, ← hq]
  have HRR := Lib.hid hRR
  have HQ := Lib.hid hq
  clear hRR hq
  go_enter Tryd.func12, Tryd.ntmps12
  go_wp2_with fail
  generalize (w.alloc (.cells (vbs Z32).toArray 25)) = W0 at H0 HB ⊢
  go_loopw [0, 4] (fun av mv wr => RoR tw R q w av mv wr) (fun av _ _ => (match av with | .slice _ n _ => n | _ => 0))
  case atStart => exact ⟨A, n, c, L, false, rfl, rfl, HR.out.below HB.out, by omega, hn, H0.out, HB.out, HRR.out.symm, by rw [HQ.out]; rfl⟩
  case round =>
    obtain ⟨A1, n1, c1, M, d, rfl, rfl, hr, hn0, hn1, h0', hb, hro, hmu⟩ := hrel
    have GR := Lib.hid hr
    have G0 := Lib.hid h0'
    have GB := Lib.hid hb
    have GO := Lib.hid hro
    have GM := Lib.hid hmu
    have GN := Lib.hid hr.num
    have hws := hb.size
    clear hr h0' hb hro hmu HR HRR HQ H0 HB hn hne h0
    by_cases h2 : n1 < 2
    · have hc : ¬ (1 : Int) < (n1 : Int) := by omega
      obtain ⟨x, hx⟩ : ∃ x, M = [x] := by
        match M, GN.out with
        | [], h => simp at h; omega
        | [x], _ => exact ⟨x, rfl⟩
        | x :: y :: M, h => simp at h; omega
      subst hx
      have e1 : R = x := by rw [← GO.out, root_one]
      have e2 : q = d := by rw [← GM.out, mut_one, Bool.or_false]
      subst e1
      subst e2
      obtain ⟨b, o, rfl, hbb, hpk⟩ := GR.out.pick (by omega) hn0
      have HXl := Lib.hid (show R.length = 32 from (hpk 0 hn0).2)
      have RX := Lib.hid (show wr.rangeAt b o (vbs R) by have := (hpk 0 hn0).1; rw [Nat.zero_mul, Nat.add_zero] at this; exact this)
      have IX := Lib.hid (i25' (vs := vbs R) (by rw [vbs_len]; exact HXl.out))
      have KTf := Lib.hid (G0.out.kt HXl.out)
      have IAf := Lib.hid (i25a HXl.out)
      have Bf := Lib.hid (G0.out.set HXl.out)
      have BBf := Lib.hid (below_setCells (B := w.heap.size) (b := w.heap.size) (Nat.le_refl _) (vbs R) 0 _ GB.out)
      have hn0' : (0 : Int) < (n1 : Int) := by omega
      clear hpk
      go_wp2_with (first
        | ((with_reducible show wpList _ _ _ ((⟨some 34, _, _, _, _, _⟩ : Oper) :: _) _ _); with_reducible refine wpList_load_mid rfl 25 (.tmp 33) rfl b o rfl (vbs R) _ RX.out Tryd.underlying25 rfl IX.out ?_)
        | ((with_reducible show wpList _ _ _ ((⟨none, _, _, _, _, _⟩ : Oper) :: _) _ _); with_reducible refine wpList_store_mid rfl 25 (.tmp 2) (.tmp 34) rfl w.heap.size 0 (vbs R).toArray rfl rfl KTf.out IAf.out (all_oneCell_toArray (vbs_one _)) ?_))
      have hlv := run_loadVar_mid (P := Tryd.prog) (wr.setCells w.heap.size 0 (vbs R)) w.heap.size 0 25 _ _ Bf.out.1.range Tryd.underlying25 rfl Bf.out.inf
      refine bodyPost_ret (v := .tuple #[.agg (vbs R).toArray, .bool _]) ?_ rfl ⟨rfl, HXl.out, BBf.out⟩
      simp [results, Tryd.results12, asAddr, Act.put, hlv]
    · have hc : (1 : Int) < (n1 : Int) := by omega
      have H2 := Lib.hid h2
      have hup := upR_eq (tw := tw) GN.out h2
      have Hup := Lib.hid hup
      have hul : Hid ((upR tw M).length = (n1 + 1) / 2) := show (upR tw M).length = (n1 + 1) / 2 by rw [upR_len, GN.out]; unfold upn; rw [if_neg h2]
      obtain ⟨b, o, rfl, hbb, hpk⟩ := GR.out.pick (by omega) hn0
      have HPk := Lib.hid hpk
      clear hup h2 hpk
      obtain ⟨wo, hwo⟩ : ∃ x, x = wr := ⟨_, rfl⟩
      subst hwo
      go_wp2_with fail
      go_loopw [4, 5] (fun mv iv wr => RoN M n1 d wo mv iv wr) (fun _ iv _ => (n1 + 2 - intOf iv).toNat)
      case atStart => exact ⟨0, d, by omega, rfl, rfl, Below.refl _ _, by unfold RpI; simp⟩
      case round =>
        obtain ⟨k, d', hk, rfl, rfl, hb2, hri⟩ := hrel
        have HB2 := Lib.hid hb2
        have HI := Lib.hid hri
        obtain ⟨s, hs⟩ : ∃ s, s = 2 * k := ⟨_, rfl⟩
        rw [← hs]
        have Hs := Lib.hid hs
        clear hb2 hri
        by_cases hlt : s + 1 < n1
        · have hlt' : (s : Int) + 1 < (n1 : Int) := by omega
          have hls : (s : Int) < (n1 : Int) := by omega
          have hwr : IntKind.i64.wrap ((s : Int) + 1) = (s : Int) + 1 := by rw [IntKind.wrap_i64]; omega
          have hnn : ¬ (s : Int) + 1 < 0 := by omega
          have hnn2 : (0 : Int) ≤ (s : Int) + 1 := by omega
          obtain ⟨X, hX⟩ : ∃ X, X = M.getD s [] := ⟨_, rfl⟩
          obtain ⟨Y, hY⟩ : ∃ Y, Y = M.getD (s + 1) [] := ⟨_, rfl⟩
          have HXl := Lib.hid (show X.length = 32 by rw [hX]; exact (HPk.out s (by omega)).2)
          have HYl := Lib.hid (show Y.length = 32 by rw [hY]; exact (HPk.out (s + 1) hlt).2)
          have RX := Lib.hid (show wo.rangeAt b (o + s * 32) (vbs X) by rw [hX]; exact (HPk.out s (by omega)).1)
          have RY := Lib.hid (show wo.rangeAt b (o + (s + 1) * 32) (vbs Y) by rw [hY]; exact (HPk.out (s + 1) hlt).1)
          have IX := Lib.hid (i25' (vs := vbs X) (by rw [vbs_len]; exact HXl.out))
          have IY := Lib.hid (i25' (vs := vbs Y) (by rw [vbs_len]; exact HYl.out))
          have hq := eql25 X Y HXl.out HYl.out
          obtain ⟨t, ht⟩ : ∃ t, t = decide (X = Y) := ⟨_, rfl⟩
          rw [← ht] at hq
          have hrp : t = repAt M k := by
            unfold repAt
            rw [ht, GN.out, ← hs, decide_eq_true hlt, Bool.true_and, hX, hY]
          have Ht := Lib.hid hrp
          have hSd := Lib.hid (show SBw wo wr.drew from Below.drew HB2.out)
          clear hX hY ht hrp hs hk hlt
          go_upto_region 8 with fail
          refine wp_region_but (z := 999) (SBw wo) (by kernel_rfl) ?_
          have hS : (SBw wo) wr.drew := hSd.out
          refine AnyBut.takeE (i := 0) (v := ?_) rfl (by kernel_rfl) (by kernel_rfl) (by kernel_rfl) (by kernel_rfl) (fun _ _ _ h => h) (Or.inl ⟨by rfl, ?_⟩) hS ?_
          rotate_left
          · (intro wq hq; go_simp; try with_reducible rfl)
          try simp only [Act.put, List.setIfInBounds_toArray, List.set_cons_zero, List.set_cons_succ, List.getElem_toArray, List.getElem_cons_zero, List.getElem_cons_succ]
          refine AnyBut.takeE (i := 1) (v := ?_) rfl (by kernel_rfl) (by kernel_rfl) (by kernel_rfl) (by kernel_rfl) (fun _ _ _ h => h) (Or.inl ⟨by rfl, ?_⟩) hS ?_
          rotate_left
          · (intro wq hq; go_simp; try with_reducible rfl)
          try simp only [Act.put, List.setIfInBounds_toArray, List.set_cons_zero, List.set_cons_succ, List.getElem_toArray, List.getElem_cons_zero, List.getElem_cons_succ]
          refine AnyBut.takeE (i := 2) (v := .pointer (some ⟨b, o + s * 32, none⟩)) rfl (by kernel_rfl) (by kernel_rfl) (by kernel_rfl) (by kernel_rfl) (fun _ _ _ h => h) (Or.inl ⟨by rfl, ?_⟩) hS ?_
          · (intro wq hq; go_simp)
          try simp only [Act.put, List.setIfInBounds_toArray, List.set_cons_zero, List.set_cons_succ, List.getElem_toArray, List.getElem_cons_zero, List.getElem_cons_succ]
          refine AnyBut.takeE (i := 3) (v := .agg (vbs X).toArray) rfl (by kernel_rfl) (by kernel_rfl) (by kernel_rfl) (by kernel_rfl) (fun _ _ _ h => h) ?_ hS ?_
          · exact yieldsIf_load_mid (by rfl) 25 (.tmp 22) rfl (b) (o + s * 32) rfl (vbs X) _ (fun _ h => range_below RX.out h hbb) Tryd.underlying25 rfl IX.out
          try simp only [Act.put, List.setIfInBounds_toArray, List.set_cons_zero, List.set_cons_succ, List.getElem_toArray, List.getElem_cons_zero, List.getElem_cons_succ]
          refine AnyBut.takeE (i := 4) (v := ?_) rfl (by kernel_rfl) (by kernel_rfl) (by kernel_rfl) (by kernel_rfl) (fun _ _ _ h => h) (Or.inl ⟨by rfl, ?_⟩) hS ?_
          rotate_left
          · (intro wq hq; go_simp; try with_reducible rfl)
          try simp only [Act.put, List.setIfInBounds_toArray, List.set_cons_zero, List.set_cons_succ, List.getElem_toArray, List.getElem_cons_zero, List.getElem_cons_succ]
          refine AnyBut.takeE (i := 5) (v := ?_) rfl (by kernel_rfl) (by kernel_rfl) (by kernel_rfl) (by kernel_rfl) (fun _ _ _ h => h) (Or.inl ⟨by rfl, ?_⟩) hS ?_
          rotate_left
          · (intro wq hq; go_simp; try with_reducible rfl)
          try simp only [Act.put, List.setIfInBounds_toArray, List.set_cons_zero, List.set_cons_succ, List.getElem_toArray, List.getElem_cons_zero, List.getElem_cons_succ]
          refine AnyBut.takeE (i := 6) (v := .int .i64 ((s : Int) + 1)) rfl (by kernel_rfl) (by kernel_rfl) (by kernel_rfl) (by kernel_rfl) (fun _ _ _ h => h) (Or.inl ⟨by rfl, ?_⟩) hS ?_
          · (intro wq hq; go_simp; try rw [hwr])
          try simp only [Act.put, List.setIfInBounds_toArray, List.set_cons_zero, List.set_cons_succ, List.getElem_toArray, List.getElem_cons_zero, List.getElem_cons_succ]
          refine AnyBut.takeE (i := 7) (v := .pointer (some ⟨b, o + (s + 1) * 32, none⟩)) rfl (by kernel_rfl) (by kernel_rfl) (by kernel_rfl) (by kernel_rfl) (fun _ _ _ h => h) (Or.inl ⟨by rfl, ?_⟩) hS ?_
          · (intro wq hq; go_simp)
          try simp only [Act.put, List.setIfInBounds_toArray, List.set_cons_zero, List.set_cons_succ, List.getElem_toArray, List.getElem_cons_zero, List.getElem_cons_succ]
          refine AnyBut.takeE (i := 8) (v := .agg (vbs Y).toArray) rfl (by kernel_rfl) (by kernel_rfl) (by kernel_rfl) (by kernel_rfl) (fun _ _ _ h => h) ?_ hS ?_
          · exact yieldsIf_load_mid (by rfl) 25 (.tmp 27) rfl (b) (o + (s + 1) * 32) rfl (vbs Y) _ (fun _ h => range_below RY.out h hbb) Tryd.underlying25 rfl IY.out
          try simp only [Act.put, List.setIfInBounds_toArray, List.set_cons_zero, List.set_cons_succ, List.getElem_toArray, List.getElem_cons_zero, List.getElem_cons_succ]
          refine AnyBut.takeE (i := 9) (v := .bool t) rfl (by kernel_rfl) (by kernel_rfl) (by kernel_rfl) (by kernel_rfl) (fun _ _ _ h => h) (Or.inl ⟨by rfl, ?_⟩) hS ?_
          · (intro wq hq; go_simp)
          try simp only [Act.put, List.setIfInBounds_toArray, List.set_cons_zero, List.set_cons_succ, List.getElem_toArray, List.getElem_cons_zero, List.getElem_cons_succ]
          refine AnyBut.done (by kernel_rfl) ?_ _
          try dsimp only [Exit.then]
          clear hS hq
          cases t with
          | true =>
            go_wp2_with fail
            go_roundw
            case rel =>
              refine ⟨k + 1, true, by have := Hs.out; omega, by have := Hs.out; refine congrArg _ ?_; omega, rfl, hSd.out, ?_⟩
              have := HI.out.step
              rw [← Ht.out, Bool.or_true] at this
              exact this
            case measure => simp [intOf]; omega
          | false =>
            go_wp2_with fail
            go_roundw
            case rel =>
              refine ⟨k + 1, d', by have := Hs.out; omega, by have := Hs.out; refine congrArg _ ?_; omega, rfl, hSd.out, ?_⟩
              have := HI.out.step
              rw [← Ht.out, Bool.or_false] at this
              exact this
            case measure => simp [intOf]; omega
        · have hlt' : ¬ (s : Int) + 1 < (n1 : Int) := by omega
          have hdd := HI.out.all GN.out (by omega)
          have hs6 : s ≤ 1000000 := by omega
          have hs7 : (s : Int) ≤ 1000000 := by omega
          have Hdd := Lib.hid hdd
          have BW2 := Lib.hid (GB.out.trans (HB2.out.mono hws))
          have E2 := Lib.hid (G0.out.below HB2.out)
          have hw2 := BW2.out.size
          have HAb := Lib.hid (rabove_any HT.out (some ⟨b, o, none⟩) n1 c1 M wr (GR.out.below HB2.out) hn1)
          rw [Hup.out] at HAb
          clear hdd hs hlt
          go_wp2_with (first
            | (go_at_call 34; (with_reducible refine HAb.out.mono ?_); rintro e W8 ⟨v8, rfl, ho8, hb8⟩; obtain ⟨A8, c8, e8, hr8⟩ := ho8.rdN; rw [hul.out] at e8 hr8; subst e8; have R8 := Lib.hid hr8; have B8 := Lib.hid (BW2.out.trans (hb8.mono hw2)); have E8 := Lib.hid (E2.out.below hb8); clear ho8 hr8 hb8 HAb; dsimp only))
          go_roundw
          case rel =>
            refine ⟨A8, (n1 + 1) / 2, c8, upR tw M, d', rfl, rfl, R8.out, by omega, by omega, E8.out, B8.out, ?_, ?_⟩
            · rw [← GO.out, root_up (L := M) (by rw [GN.out]; exact H2.out)]
            · rw [Hdd.out, ← GM.out, mut_up (L := M) (by rw [GN.out]; exact H2.out), Bool.or_assoc]
          case measure => simp; have := H2.out; omega
end Go.Proofs.YtihbmahjdmfjpaaDoor
