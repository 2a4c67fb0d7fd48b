/- What the document's side answers: Branch. -/
import Derived.Test.YtihbmahjdmfjpaaDoorPb
import Derived.Test.YtihbmahjdmfjpaaDoorFr
import Derived.Outline
import Derived.StillTailTactics
namespace Go.Proofs.YtihbmahjdmfjpaaDoor
open Go.RowKit
set_option linter.unusedVariables false
set_option linter.unusedSimpArgs false
set_option maxRecDepth 100000
variable {tw : List (BitVec 8) → List (BitVec 8)}
/-- What v's row may be written to and A's is not. -/
def Aw (A : Option Addr) (v : Value) : Prop := ∀ g, v.ownBlock = some g → ∀ a, A = some a → a.block ≠ g
theorem Aw.fresh {e s : Nat} {W : World} {B n c : Nat} {A : Option Addr} {v : Value} {L : List (List (BitVec 8))} (h : OF e s W B (.slice A n c) L) (hv : ∀ g, v.ownBlock = some g → g < B) : Aw A v := fun g hg a ha => by
  subst ha
  have h1 := hv g hg
  rcases h.2.2 with ⟨h2, _⟩ | ⟨g', cap, cur, h2, hb, _⟩
  · cases h2
  · cases h2
    show g' ≠ g
    omega
theorem RdN.grown {s : Nat} {W W' : World} {A : Option Addr} {n c : Nat} {v : Value} {M : List (List (BitVec 8))} (h : RdN s W A n c M) (hg : W.grownBy W' v.ownBlock) (ha : Aw A v) : RdN s W' A n c M :=
  ⟨h.len, h.num, fun hp => by
    obtain ⟨b, o, e, hb, hc⟩ := h.rd hp
    refine ⟨b, o, e, Nat.lt_of_lt_of_le hb hg.size, fun j hj => ?_⟩
    rw [World.cell?_of_block (a := ⟨b, o + j, none⟩) (hg.block b hb (fun e' => ha b e'.symm _ e rfl))]
    exact hc j hj, h.le, h.mx⟩
theorem upR_eq {M : List (List (BitVec 8))} {n : Nat} (hn : M.length = n) (h : ¬ n < 2) : (pairsN M ((n + 1) / 2)).map tw = upR tw M := by
  unfold upR pairsT
  rw [hn, if_neg h]
def BrR (tw : List (BitVec 8) → List (BitVec 8)) (R : List (List (BitVec 8))) (w : World) (av iv v : Value) (wr : World) : Prop :=
  ∃ (A : Option Addr) (n c : Nat) (M : List (List (BitVec 8))) (i : Nat) (D : List (List (BitVec 8))), av = .slice A n c ∧ iv = .int .i64 (i : Int) ∧ RdN 32 wr A n c M ∧ i < n ∧ n ≤ 100000 ∧ OF 25 32 wr w.heap.size v D ∧ Below w.heap.size w wr ∧ Aw A v ∧ D ++ branchT tw M i = R
theorem par_xo {n i : Nat} (h : xo i < n) (hi : i < n) : parK n i = xo i := by
  unfold xo at h ⊢
  unfold parK
  by_cases hp : i % 2 = 0
  · rw [if_pos hp] at h ⊢
    rw [if_neg (by omega), if_pos h]
  · rw [if_neg hp, if_pos (by omega)]
set_option maxHeartbeats 4000000 in
theorem rbranch_any (T : RwC tw) (A : Option Addr) (n c : Nat) (L : List (List (BitVec 8))) (i : Int) (w : World) (hR : RdN 32 w A n c L) (hn : n ≤ 100000) (hi : -9223372036854775808 ≤ i ∧ i ≤ 9223372036854775807) :
    Calls Tryd.prog 19 #[.slice A n c, .int .i64 i] w (BrPost (branchI tw L i) w) := by
  have HT := Lib.hid T
  have HR := Lib.hid hR
  have HN := Lib.hid hR.num
  clear T hR
  by_cases h1 : i < 0
  · have h1b : decide (i < 0) = true := by simpa using h1
    rw [show branchI tw L i = none by unfold branchI; rw [if_neg (by omega)]]
    go_enter Tryd.func19, Tryd.ntmps19
    go_wp2_with fail
    exact bodyPost_ret (v := .tuple #[.slice none 0 0, .bool false]) (by simp [results, Tryd.results19, asAddr, Act.put]) rfl ⟨_, rfl, OF.nil _ _ _ _, Below.refl _ _⟩
  by_cases h2 : (n : Int) ≤ i
  · have h1b : decide (i < 0) = false := by simpa using h1
    have h2b : decide ((n : Int) ≤ i) = true := by simpa using h2
    rw [show branchI tw L i = none by unfold branchI; rw [if_neg (by have := HN.out; omega)]]
    go_enter Tryd.func19, Tryd.ntmps19
    go_wp2_with fail
    exact bodyPost_ret (v := .tuple #[.slice none 0 0, .bool false]) (by simp [results, Tryd.results19, asAddr, Act.put]) rfl ⟨_, rfl, OF.nil _ _ _ _, Below.refl _ _⟩
  obtain ⟨i', rfl⟩ : ∃ k : Nat, i = k := ⟨i.toNat, by omega⟩
  have e1 : decide ((i' : Int) < 0) = false := by simp
  have e2 : decide ((n : Int) ≤ (i' : Int)) = false := by simp; omega
  have e3 : decide (n ≤ i') = false := by simp; omega
  have hin : i' < n := by omega
  obtain ⟨R, hRR⟩ : ∃ R, R = branchT tw L i' := ⟨_, rfl⟩
  rw [show branchI tw L (i' : Int) = some R by unfold branchI; rw [if_pos ⟨by omega, by have := HN.out; omega⟩, Int.toNat_natCast, hRR]]
  have HRl : Hid (R.length ≤ 100000) := show R.length ≤ 100000 by
    rw [hRR]
    have h1 := branchK_le tw L i' (nrow L.length)
    have h2 := nrow_le L.length L.length (Nat.le_refl _)
    have h3 := HN.out
    show (branchK tw L i' (nrow L.length)).length ≤ 100000
    omega
  have HRR := Lib.hid hRR
  clear hRR h1 h2 hi
  go_enter Tryd.func19, Tryd.ntmps19
  go_wp2_with fail
  clear e1 e2 e3
  go_loopw [0, 1, 6] (fun av iv v wr => BrR tw R w av iv v wr) (fun av _ _ _ => (match av with | .slice _ n _ => n | _ => 0))
  case atStart => exact ⟨A, n, c, L, i', [], rfl, rfl, HR.out, hin, hn, OF.nil _ _ _ _, Below.refl _ _, (fun g h => by cases h), by rw [HRR.out]; rfl⟩
  case round =>
    obtain ⟨A1, n1, c1, M, i, D, rfl, rfl, hr, hi, hn1, ho, hb, ha, hbr⟩ := hrel
    have GR := Lib.hid hr
    have GO := Lib.hid ho
    have GB := Lib.hid hb
    have GA := Lib.hid ha
    have GF := Lib.hid hbr
    have GN := Lib.hid hr.num
    have hws := hb.size
    have GD : Hid (D.length ≤ 1000000) := show D.length ≤ 1000000 by
      have := HRl.out
      rw [← hbr, List.length_append] at this
      omega
    clear hr ho hb ha hbr HR HRR hin HN
    by_cases h2 : n1 < 2
    · have hc : ¬ (1 : Int) < (n1 : Int) := by omega
      have hbt : D = R := by
        rw [← GF.out]
        match M, GN.out with
        | [], h => simp at h; omega
        | [x], _ => rw [branch_one x i (by omega), List.append_nil]
        | x :: y :: M, h => simp at h; omega
      have GO' := GO.out
      rw [hbt] at GO'
      have GO2 := Lib.hid (show OF 25 32 wr w.heap.size _ ((some R).getD []) from GO')
      clear hbt GO'
      go_wp2_with fail
      refine bodyPost_ret (v := .tuple #[_, .bool true]) ?_ rfl ⟨_, rfl, GO2.out, GB.out⟩
      simp [results, Tryd.results19, asAddr, Act.put]
    · have hc : (1 : Int) < (n1 : Int) := by omega
      have H2 := Lib.hid h2
      have hup := upR_eq (tw := tw) GN.out h2
      have Hup := Lib.hid hup
      have hul : Hid ((upR tw M).length = (n1 + 1) / 2) := show (upR tw M).length = (n1 + 1) / 2 by rw [upR_len, GN.out]; unfold upn; rw [if_neg h2]
      clear hup h2
      by_cases hp : i % 2 = 1
      · have hp' : ((i : Int) % 2 == 1) = true := by simp; omega
        have hxo : xo i < n1 := by unfold xo; rw [if_neg (by omega)]; omega
        have Hp := Lib.hid hp
        clear hp
        have HXo := Lib.hid hxo
        obtain ⟨P, hP⟩ : ∃ P, P = M.getD (xo i) [] := ⟨_, rfl⟩
        have HP := Lib.hid hP
        have HPl := Lib.hid (show P.length = 32 by rw [hP]; exact GR.out.len.at (by rw [GN.out]; exact hxo))
        have HPa := Lib.hid (partner_any A1 n1 c1 i M wr GR.out hi (by omega))
        rw [par_xo hxo hi, ← hP] at HPa
        clear hP hxo
        go_upto_region 7 with (first
          | (go_at_call 36; (with_reducible refine HPa.out.mono ?_); rintro e W2 ⟨rfl, hb2⟩; have O2 := Lib.hid (GO.out.below hb2); have R2 := Lib.hid (GR.out.below hb2); have B2 := Lib.hid (GB.out.trans (hb2.mono hws)); have hs2 := hb2.size; clear hb2 HPa; dsimp only)
          | ((with_reducible show wpList _ _ _ ((⟨some 32, _, _, _, _, _⟩ : Oper) :: _) _ _); refine wpList_rows rfl 22 25 32 (by omega) #[(0, .tmp 31)] [P] (.one HPl.out) (by simp) (by simp) rfl Tryd.underlying22 info25 z25 (by rfl) ?_; have g3 := Blk.new W2 25 (vbs [P].flatten).toArray; have b3 := (Below.refl W2.heap.size W2).alloc (Nat.le_refl _) (.cells (vbs [P].flatten).toArray 25); have O3 := Lib.hid (O2.out.below b3); have R3 := Lib.hid (R2.out.below b3); have B3 := Lib.hid (B2.out.trans (b3.mono (Nat.le_trans hws hs2))); have hs3 := b3.size; generalize (W2.alloc (.cells (vbs [P].flatten).toArray 25)) = W3 at g3 b3 O3 R3 B3 hs3 ⊢; have G3 := Lib.hid (show Blk W3 W2.heap.size 25 (vbs P) by simpa using g3); clear g3 b3)
          | ((with_reducible show wpList _ _ _ ((⟨some 33, _, _, _, _, _⟩ : Oper) :: _) _ _); refine wpList_appF Tryd.underlying22 info25f rfl (by omega) (by omega) rfl (.tmp 28) (.tmp 32) rfl rfl w.heap.size _ D rfl O3.out W2.heap.size 25 1 P rfl HPl.out G3.out GD.out (by omega) ?_; intro v4 W4 ho4 hg4; have O4 := Lib.hid ho4; have B4 := Lib.hid (B3.out.grown hg4 (by omega) (fun g e => (O3.out.lt e).2.1)); have R4 := Lib.hid (R3.out.grown hg4 GA.out); clear ho4 hg4))
        have hw4 := B4.out.size
        have HAb := Lib.hid (rabove_any HT.out A1 n1 c1 M W4 R4.out hn1)
        rw [Hup.out] at HAb
        go_wp2_with (first
          | (go_at_call 34; (with_reducible refine HAb.out.mono ?_); rintro e W8 ⟨v8, rfl, ho8, hb8⟩; obtain ⟨A8, c8, e8, hr8⟩ := ho8.rdN; rw [hul.out] at e8 hr8; subst e8; have K8 := Lib.hid ho8; have R8 := Lib.hid hr8; have B8 := Lib.hid (B4.out.trans (hb8.mono hw4)); have O8 := Lib.hid (O4.out.below hb8); clear ho8 hr8 hb8 HAb; dsimp only))
        go_roundw
        case rel =>
          refine ⟨A8, (n1 + 1) / 2, c8, upR tw M, i / 2, D ++ [P], rfl, by go_num, R8.out, by omega, by omega, O8.out, B8.out, Aw.fresh K8.out (fun g hg => (O4.out.lt hg).1), ?_⟩
          rw [← GF.out, branch_up (L := M) (by rw [GN.out]; exact H2.out) i]
          unfold brAt
          rw [GN.out, if_pos HXo.out, ← HP.out, List.append_assoc]
        case measure => simp; have := H2.out; omega
      · have hp' : ((i : Int) % 2 == 1) = false := by simp; omega
        by_cases hg : i + 1 < n1
        · have hg' : decide ((i : Int) + 1 < (n1 : Int)) = true := by simp; omega
          have hxo : xo i < n1 := by unfold xo; rw [if_pos (by omega)]; omega
          have Hp := Lib.hid hp
          clear hp
          have HXo := Lib.hid hxo
          obtain ⟨P, hP⟩ : ∃ P, P = M.getD (xo i) [] := ⟨_, rfl⟩
          have HP := Lib.hid hP
          have HPl := Lib.hid (show P.length = 32 by rw [hP]; exact GR.out.len.at (by rw [GN.out]; exact hxo))
          have HPa := Lib.hid (partner_any A1 n1 c1 i M wr GR.out hi (by omega))
          rw [par_xo hxo hi, ← hP] at HPa
          clear hP hxo
          go_upto_region 7 with (first
            | (go_at_call 36; (with_reducible refine HPa.out.mono ?_); rintro e W2 ⟨rfl, hb2⟩; have O2 := Lib.hid (GO.out.below hb2); have R2 := Lib.hid (GR.out.below hb2); have B2 := Lib.hid (GB.out.trans (hb2.mono hws)); have hs2 := hb2.size; clear hb2 HPa; dsimp only)
            | ((with_reducible show wpList _ _ _ ((⟨some 32, _, _, _, _, _⟩ : Oper) :: _) _ _); refine wpList_rows rfl 22 25 32 (by omega) #[(0, .tmp 31)] [P] (.one HPl.out) (by simp) (by simp) rfl Tryd.underlying22 info25 z25 (by rfl) ?_; have g3 := Blk.new W2 25 (vbs [P].flatten).toArray; have b3 := (Below.refl W2.heap.size W2).alloc (Nat.le_refl _) (.cells (vbs [P].flatten).toArray 25); have O3 := Lib.hid (O2.out.below b3); have R3 := Lib.hid (R2.out.below b3); have B3 := Lib.hid (B2.out.trans (b3.mono (Nat.le_trans hws hs2))); have hs3 := b3.size; generalize (W2.alloc (.cells (vbs [P].flatten).toArray 25)) = W3 at g3 b3 O3 R3 B3 hs3 ⊢; have G3 := Lib.hid (show Blk W3 W2.heap.size 25 (vbs P) by simpa using g3); clear g3 b3)
            | ((with_reducible show wpList _ _ _ ((⟨some 33, _, _, _, _, _⟩ : Oper) :: _) _ _); refine wpList_appF Tryd.underlying22 info25f rfl (by omega) (by omega) rfl (.tmp 28) (.tmp 32) rfl rfl w.heap.size _ D rfl O3.out W2.heap.size 25 1 P rfl HPl.out G3.out GD.out (by omega) ?_; intro v4 W4 ho4 hg4; have O4 := Lib.hid ho4; have B4 := Lib.hid (B3.out.grown hg4 (by omega) (fun g e => (O3.out.lt e).2.1)); have R4 := Lib.hid (R3.out.grown hg4 GA.out); clear ho4 hg4))
          have hw4 := B4.out.size
          have HAb := Lib.hid (rabove_any HT.out A1 n1 c1 M W4 R4.out hn1)
          rw [Hup.out] at HAb
          go_wp2_with (first
            | (go_at_call 34; (with_reducible refine HAb.out.mono ?_); rintro e W8 ⟨v8, rfl, ho8, hb8⟩; obtain ⟨A8, c8, e8, hr8⟩ := ho8.rdN; rw [hul.out] at e8 hr8; subst e8; have K8 := Lib.hid ho8; have R8 := Lib.hid hr8; have B8 := Lib.hid (B4.out.trans (hb8.mono hw4)); have O8 := Lib.hid (O4.out.below hb8); clear ho8 hr8 hb8 HAb; dsimp only))
          go_roundw
          case rel =>
            refine ⟨A8, (n1 + 1) / 2, c8, upR tw M, i / 2, D ++ [P], rfl, by go_num, R8.out, by omega, by omega, O8.out, B8.out, Aw.fresh K8.out (fun g hg => (O4.out.lt hg).1), ?_⟩
            rw [← GF.out, branch_up (L := M) (by rw [GN.out]; exact H2.out) i]
            unfold brAt
            rw [GN.out, if_pos HXo.out, ← HP.out, List.append_assoc]
          case measure => simp; have := H2.out; omega
        · have hg' : decide ((i : Int) + 1 < (n1 : Int)) = false := by simp; omega
          have hxo : ¬ xo i < n1 := by unfold xo; rw [if_pos (by omega)]; omega
          have HXo := Lib.hid hxo
          clear hxo hp
          have HAb := Lib.hid (rabove_any HT.out A1 n1 c1 M wr GR.out hn1)
          rw [Hup.out] at HAb
          go_wp2_with (first
            | (go_at_call 34; (with_reducible refine HAb.out.mono ?_); rintro e W8 ⟨v8, rfl, ho8, hb8⟩; obtain ⟨A8, c8, e8, hr8⟩ := ho8.rdN; rw [hul.out] at e8 hr8; subst e8; have K8 := Lib.hid ho8; have R8 := Lib.hid hr8; have B8 := Lib.hid (GB.out.trans (hb8.mono hws)); have O8 := Lib.hid (GO.out.below hb8); clear ho8 hr8 hb8 HAb; dsimp only))
          go_roundw
          case rel =>
            refine ⟨A8, (n1 + 1) / 2, c8, upR tw M, i / 2, D, rfl, by go_num, R8.out, by omega, by omega, O8.out, B8.out, Aw.fresh K8.out (fun g hg => (GO.out.lt hg).1), ?_⟩
            rw [← GF.out, branch_up (L := M) (by rw [GN.out]; exact H2.out) i]
            unfold brAt
            rw [GN.out, if_neg HXo.out, List.nil_append]
          case measure => simp; have := H2.out; omega
end Go.Proofs.YtihbmahjdmfjpaaDoor
