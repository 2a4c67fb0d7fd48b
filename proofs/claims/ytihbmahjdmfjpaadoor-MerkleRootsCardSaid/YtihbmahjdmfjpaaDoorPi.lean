/- What the document's side answers: Texts. -/
import Derived.Test.YtihbmahjdmfjpaaDoorPc
import Derived.Test.YtihbmahjdmfjpaaDoorHa
import Derived.Outline
import Derived.StillTailTactics
namespace Go.Proofs.YtihbmahjdmfjpaaDoor
open Go.RowKit
set_option linter.unusedVariables false
set_option linter.unusedSimpArgs false
set_option maxRecDepth 100000
variable {tw : List (BitVec 8) → List (BitVec 8)}
theorem wp_appW {w : World} {o : Oper} {a : Act} {K : Act → World → Prop} {Q : Exit → Act → World → Prop} (d y : Operand) (hop : o.op = .call { callee := .builtin .append, args := #[d, y], argTypes := #[29, 29] }) (hty : o.type = 29)
    (B : Nat) (v : Value) (Ts : List (List (BitVec 8))) (hd : a.eval d = v) (h : OW w B v Ts) (g c : Nat) (x : List (BitVec 8)) (A : Option Addr) (m c' : Nat) (hy : a.eval y = .slice (some ⟨g, 0, none⟩) 1 c) (hx : x.length = 64) (hg : Blk w g 54 [.slice A m c']) (hgt : OB w B (.slice A m c') x) (hl : Ts.length ≤ 1000000) (hB : B ≤ w.heap.size)
    (hk : ∀ v' w', OW w' B v' (Ts ++ [x]) → w.grownBy w' v.ownBlock → K (a.put o.dst v') w') : o.wp Tryd.prog a w K Q := by
  obtain ⟨v', w', hr, h2, h3⟩ := run_appW (c := c) h hx hg hgt hl hB
  rw [← hty] at hr
  unfold Oper.wp execOp
  simp only [hop, resolve, invoke, builtin, Sem.run_bind, Sem.run_pure, Result.andThen_ok, List.map_toArray, List.map_cons, List.map_nil, hd, hy]
  rw [hty] at hr ⊢
  simp only [hr]
  exact hk v' w' h2 h3
/-- Where a list of hashes lies: it came in, or it is a row of hashes. -/
def Sp (A : Option Addr) (w W : World) : Prop := ∀ a, A = some a → a.block < w.heap.size ∨ ∃ cur m, W.heap[a.block]? = some (.cells cur 25 m)
theorem Sp.below {A : Option Addr} {w W W' : World} (h : Sp A w W) (hb : Below W.heap.size W W') : Sp A w W' := fun a ha => by
  rcases h a ha with h1 | ⟨cur, m, h1⟩
  · exact .inl h1
  · exact .inr ⟨cur, m, (hb.block _ (Array.getElem?_eq_some_iff.1 h1).1).trans h1⟩
theorem Sp.away {A : Option Addr} {w W : World} {v : Value} {Ts : List (List (BitVec 8))} (h : Sp A w W) (ho : OW W w.heap.size v Ts) : Aw A v := fun g hg a ha e => by
  obtain ⟨_, hB, cur, m, hc⟩ := ho.lt hg
  rcases h a ha with h1 | ⟨cur', m', h1⟩
  · omega
  · rw [e, hc] at h1; cases h1
theorem Sp.grown {A : Option Addr} {w W W' : World} {v : Value} {Ts : List (List (BitVec 8))} (h : Sp A w W) (ho : OW W w.heap.size v Ts) (hg : W.grownBy W' v.ownBlock) : Sp A w W' := fun a ha => by
  rcases h a ha with h1 | ⟨cur, m, h1⟩
  · exact .inl h1
  · refine .inr ⟨cur, m, (hg.block _ (Array.getElem?_eq_some_iff.1 h1).1 (fun e => ?_)).trans h1⟩
    exact h.away ho _ e.symm a ha rfl
theorem Sp.fresh {w W : World} {B n c s : Nat} {A : Option Addr} {L : List (List (BitVec 8))} (h : OF 25 s W B (.slice A n c) L) : Sp A w W := fun a ha => by
  subst ha
  rcases h.2.2 with ⟨h2, _⟩ | ⟨g', cap, cur, h2, hb, hg, _⟩
  · cases h2
  · cases h2
    exact .inr ⟨_, _, hg⟩
def TqR (tw : List (BitVec 8) → List (BitVec 8)) (R : List (List (BitVec 8))) (w : World) (av v : Value) (wr : World) : Prop :=
  ∃ (A : Option Addr) (n c : Nat) (M D : List (List (BitVec 8))), av = .slice A n c ∧ RdN 32 wr A n c M ∧ n ≤ 100000 ∧ OW wr w.heap.size v D ∧ Below w.heap.size w wr ∧ (0 < n → Sp A w wr) ∧ D ++ textsT tw M = R
def TqN (M D : List (List (BitVec 8))) (A : Option Addr) (n c : Nat) (w : World) (v iv : Value) (wr : World) : Prop :=
  ∃ k : Nat, 2 * k ≤ n + 1 ∧ iv = .int .i64 ((2 * k : Nat) : Int) ∧ RdN 32 wr A n c M ∧ OW wr w.heap.size v (D ++ pairsN M k) ∧ Below w.heap.size w wr ∧ Sp A w wr
theorem texts_lo {M : List (List (BitVec 8))} (h : M.length < 2) : textsT tw M = [] := by
  unfold textsT
  rw [nrow_lo h]
  match M, h with
  | [], _ => rfl
  | [x], _ => rfl
set_option maxHeartbeats 8000000 in
theorem rtexts_any (T : RwC tw) (A : Option Addr) (n c : Nat) (L : List (List (BitVec 8))) (w : World) (hR : RdN 32 w A n c L) (hn : n ≤ 100000) :
    Calls Tryd.prog 15 #[.slice A n c] w (FdPost (textsT tw L) w) := by
  have HT := Lib.hid T
  have HR := Lib.hid hR
  have HS0 : Hid (0 < n → Sp A w w) := show 0 < n → Sp A w w from fun hp a ha => .inl (by
    obtain ⟨b, o, e, hb, _⟩ := hR.pick (by omega) hp
    rw [e] at ha; cases ha; exact hb)
  obtain ⟨R, hRR⟩ : ∃ R, R = textsT tw L := ⟨_, rfl⟩
  have HRl : Hid (R.length ≤ 200000) := show R.length ≤ 200000 by
    rw [hRR]
    have h1 := textsK_le tw L (nrow L.length)
    have h3 := hR.num
    show (textsK tw L (nrow L.length)).length ≤ 200000
    omega
  rw [← hRR]
  have HRR := Lib.hid hRR
  clear T hR hRR
  go_enter Tryd.func15, Tryd.ntmps15
  go_wp2_with fail
  go_loopw [0, 3] (fun av v wr => TqR tw R w av v wr) (fun av _ _ => (match av with | .slice _ n _ => n | _ => 0))
  case atStart => exact ⟨A, n, c, L, [], rfl, HR.out, hn, OW.nil _ _, Below.refl _ _, HS0.out, by rw [HRR.out]; rfl⟩
  case round =>
    obtain ⟨A1, n1, c1, M, D, rfl, hr, hn1, ho, hb, hsp, hte⟩ := hrel
    have GR := Lib.hid hr
    have GO := Lib.hid ho
    have GB := Lib.hid hb
    have GS := Lib.hid hsp
    have GF := Lib.hid hte
    have GN := Lib.hid hr.num
    have GD : Hid (D.length ≤ 200000) := show D.length ≤ 200000 by
      have := HRl.out
      rw [← hte, List.length_append] at this
      omega
    clear hr ho hb hsp hte HR HRR HS0 hn
    by_cases h2 : n1 < 2
    · have hc : ¬ (1 : Int) < (n1 : Int) := by omega
      have e1 : D = R := by rw [← GF.out, texts_lo (by rw [GN.out]; exact h2), List.append_nil]
      have GO' := GO.out
      rw [e1] at GO'
      have GO2 := Lib.hid GO'
      clear GO' e1
      go_wp2_with fail
      go_ret
      exact ⟨_, rfl, GO2.out, GB.out⟩
    · have hc : (1 : Int) < (n1 : Int) := by omega
      have H2 := Lib.hid h2
      have hup := upR_eq (tw := tw) GN.out h2
      have Hup := Lib.hid hup
      have hul : Hid ((upR tw M).length = (n1 + 1) / 2) := show (upR tw M).length = (n1 + 1) / 2 by rw [upR_len, GN.out]; unfold upn; rw [if_neg h2]
      have hpe : Hid (pairsT M = pairsN M ((n1 + 1) / 2)) := show pairsT M = pairsN M ((n1 + 1) / 2) by unfold pairsT; rw [GN.out, if_neg h2]
      have GS := Lib.hid (GS.out (by omega))
      clear hup h2
      go_wp2_with fail
      go_loopw [3, 4] (fun v iv wr => TqN M D A1 n1 c1 w v iv wr) (fun _ iv _ => (n1 + 2 - intOf iv).toNat)
      case atStart => exact ⟨0, by omega, rfl, GR.out, by show OW _ _ _ (D ++ []); rw [List.append_nil]; exact GO.out, GB.out, GS.out⟩
      case round =>
        obtain ⟨k, hk, rfl, hr, ho, hb, hsp⟩ := hrel
        clear GR GO GB GS
        obtain ⟨s, hs⟩ : ∃ s, s = 2 * k := ⟨_, rfl⟩
        rw [← hs]
        have hw6 : s ≤ 1000000 := by omega
        by_cases hlt : s < n1
        · have hlt' : (s : Int) < (n1 : Int) := by omega
          obtain ⟨b, o, rfl, hbb, hpk⟩ := hr.pick (by omega) (by omega)
          obtain ⟨X, hX⟩ : ∃ X, X = M.getD s [] := ⟨_, rfl⟩
          obtain ⟨P, hP⟩ : ∃ P, P = M.getD (parK n1 s) [] := ⟨_, rfl⟩
          obtain ⟨t, ht⟩ : ∃ t, t = X ++ P := ⟨_, rfl⟩
          have hxp : parK n1 s < n1 := by unfold parK; split <;> (try split) <;> omega
          have HXl := Lib.hid (show X.length = 32 by rw [hX]; exact (hpk s hlt).2)
          have HPl := Lib.hid (show P.length = 32 by rw [hP]; exact (hpk _ hxp).2)
          have Htl := Lib.hid (show t.length = 64 by rw [ht, List.length_append, HXl.out, HPl.out])
          have Ht := Lib.hid (show t = pairT M k by rw [pair_par GN.out (by omega), ht, hX, hP, hs])
          have RX := Lib.hid (show wr.rangeAt b (o + s * 32) (vbs X) by rw [hX]; exact (hpk s hlt).1)
          have IX := Lib.hid (i25' (vs := vbs X) (by rw [vbs_len]; exact HXl.out))
          have HR1 := Lib.hid hr
          have HPa : Hid (∀ w', SBw wr w' → Calls Tryd.prog 36 #[.slice (some ⟨b, o, none⟩) n1 c1, .int .i64 (s : Int)] w' (VPost (.agg (vbs P).toArray) w')) := fun w' hb => by
            have := partner_any (some ⟨b, o, none⟩) n1 c1 s M w' (HR1.out.below hb) hlt (by omega)
            rw [← hP] at this
            exact this
          have HTx : Hid (∀ w', Calls Tryd.prog 35 #[.agg (vbs X).toArray, .agg (vbs P).toArray] w' (OBPost t w')) := fun w' => by
            have := text_any X P HXl.out HPl.out w'
            rw [← ht] at this
            exact this
          obtain ⟨N, hN⟩ : ∃ N, N = D ++ pairsN M k := ⟨_, rfl⟩
          have HN := Lib.hid hN
          have HNl : Hid (N.length ≤ 1000000) := show N.length ≤ 1000000 by rw [hN, List.length_append, pairsN_len]; have := GD.out; omega
          rw [← hN] at ho
          have HO := Lib.hid ho
          have HB := Lib.hid hb
          have HSp := Lib.hid hsp
          have Hs := Lib.hid hs
          have hww := hb.size
          clear hX hP ht hxp hpk hN hb hsp ho hs hr hk
          go_upto_region 6 with fail
          refine wp_region_to (z := 10) (SBw wr) (by kernel_rfl) ?_
          have hS : (SBw wr) wr.drew := SBw.start wr
          refine AnyTo.take (i := 0) (v := ?_) rfl (by kernel_rfl) (by kernel_rfl) (by kernel_rfl) (by kernel_rfl) (by kernel_rfl) (fun _ _ _ h => h) (Or.inl ⟨by rfl, ?_⟩) hS ?_
          rotate_left
          · (intro wq hq; go_simp; try with_reducible rfl)
          try simp only [Act.put, List.setIfInBounds_toArray, List.set_cons_zero, List.set_cons_succ, List.getElem_toArray, List.getElem_cons_zero, List.getElem_cons_succ]
          refine AnyTo.take (i := 1) (v := ?_) rfl (by kernel_rfl) (by kernel_rfl) (by kernel_rfl) (by kernel_rfl) (by kernel_rfl) (fun _ _ _ h => h) (Or.inl ⟨by rfl, ?_⟩) hS ?_
          rotate_left
          · (intro wq hq; go_simp; try with_reducible rfl)
          try simp only [Act.put, List.setIfInBounds_toArray, List.set_cons_zero, List.set_cons_succ, List.getElem_toArray, List.getElem_cons_zero, List.getElem_cons_succ]
          refine AnyTo.take (i := 2) (v := ?_) rfl (by kernel_rfl) (by kernel_rfl) (by kernel_rfl) (by kernel_rfl) (by kernel_rfl) (fun _ _ _ h => h) (Or.inl ⟨by rfl, ?_⟩) hS ?_
          rotate_left
          · (intro wq hq; go_simp; try with_reducible rfl)
          try simp only [Act.put, List.setIfInBounds_toArray, List.set_cons_zero, List.set_cons_succ, List.getElem_toArray, List.getElem_cons_zero, List.getElem_cons_succ]
          refine AnyTo.take (i := 3) (v := .pointer (some ⟨b, o + s * 32, none⟩)) rfl (by kernel_rfl) (by kernel_rfl) (by kernel_rfl) (by kernel_rfl) (by kernel_rfl) (fun _ _ _ h => h) (Or.inl ⟨by rfl, ?_⟩) hS ?_
          · (intro wq hq; go_simp)
          try simp only [Act.put, List.setIfInBounds_toArray, List.set_cons_zero, List.set_cons_succ, List.getElem_toArray, List.getElem_cons_zero, List.getElem_cons_succ]
          refine AnyTo.take (i := 4) (v := .agg (vbs X).toArray) rfl (by kernel_rfl) (by kernel_rfl) (by kernel_rfl) (by kernel_rfl) (by kernel_rfl) (fun _ _ _ h => h) ?_ hS ?_
          · exact yieldsIf_load_mid (by rfl) 25 (.tmp 17) rfl (b) (o + s * 32) rfl (vbs X) _ (fun _ h => range_below RX.out h hbb) Tryd.underlying25 rfl IX.out
          try simp only [Act.put, List.setIfInBounds_toArray, List.set_cons_zero, List.set_cons_succ, List.getElem_toArray, List.getElem_cons_zero, List.getElem_cons_succ]
          refine AnyTo.take (i := 5) (v := ?_) rfl (by kernel_rfl) (by kernel_rfl) (by kernel_rfl) (by kernel_rfl) (by kernel_rfl) (fun _ _ _ h => h) (Or.inl ⟨by rfl, ?_⟩) hS ?_
          rotate_left
          · (intro wq hq; go_simp; try with_reducible rfl)
          try simp only [Act.put, List.setIfInBounds_toArray, List.set_cons_zero, List.set_cons_succ, List.getElem_toArray, List.getElem_cons_zero, List.getElem_cons_succ]
          refine AnyTo.take (i := 6) (v := ?_) rfl (by kernel_rfl) (by kernel_rfl) (by kernel_rfl) (by kernel_rfl) (by kernel_rfl) (fun _ _ _ h => h) (Or.inl ⟨by rfl, ?_⟩) hS ?_
          rotate_left
          · (intro wq hq; go_simp; try with_reducible rfl)
          try simp only [Act.put, List.setIfInBounds_toArray, List.set_cons_zero, List.set_cons_succ, List.getElem_toArray, List.getElem_cons_zero, List.getElem_cons_succ]
          refine AnyTo.gone (i := 7) (by kernel_rfl) rfl (by rfl) (fun K hK => ?_)
          go_simp
          have hC := HPa.out _ hS
          (with_reducible refine hC.mono ?_)
          rintro e W7 ⟨rfl, hb7⟩
          dsimp only
          have hS7 : SBw wr W7 := SBw.next hS hb7
          clear hS hb7 hC
          refine hK _ _ (fun _ => hS7) ?_
          clear hK K
          try simp only [Act.put, List.setIfInBounds_toArray, List.set_cons_zero, List.set_cons_succ, List.getElem_toArray, List.getElem_cons_zero, List.getElem_cons_succ]
          have hS := hS7
          refine AnyTo.gone (i := 8) (by kernel_rfl) rfl (by rfl) (fun K hK => ?_)
          go_simp
          have hC := HTx.out W7
          (with_reducible refine hC.mono ?_)
          rintro e W8 ⟨v8, rfl, ho8, hb8⟩
          dsimp only
          have hS8 : SBw wr W8 := SBw.next hS7 hb8
          have ho8 := OB.base (B' := w.heap.size) ho8 (Nat.le_trans hww (Below.size hS7))
          obtain ⟨A8, c8, rfl, _⟩ := ho8.rd
          rw [Htl.out] at ho8 ⊢
          clear hS hS7 hb8 hC
          refine hK _ _ (fun _ => hS8) ?_
          clear hK K
          try simp only [Act.put, List.setIfInBounds_toArray, List.set_cons_zero, List.set_cons_succ, List.getElem_toArray, List.getElem_cons_zero, List.getElem_cons_succ]
          have hS := hS8
          refine AnyTo.gone (i := 9) (by kernel_rfl) rfl (by rfl) (fun K hK => ?_)
          go_simp
          have b9 : Below W8.heap.size W8 (W8.alloc (.cells #[.slice A8 64 c8] 54)) := (Below.refl _ _).alloc (Nat.le_refl _) _
          have G9 := Lib.hid (Blk.new W8 54 #[.slice A8 64 c8])
          have V9 := Lib.hid (OB.below (B' := 0) ho8 b9)
          have hS9 := SBw.next hS8 b9
          generalize (W8.alloc (.cells #[.slice A8 64 c8] 54)) = W9 at b9 G9 V9 hS9 ⊢
          have O9 := Lib.hid (HO.out.below hS9)
          have B9 := Lib.hid (HB.out.trans (Below.mono hS9 hww))
          have R9 := Lib.hid (HR1.out.below hS9)
          have S9 := Lib.hid (HSp.out.below hS9)
          have hs9 : w.heap.size ≤ W9.heap.size := B9.out.size
          clear hS hS8 b9 ho8
          refine hK _ _ (fun _ => hS9) ?_
          clear hK K
          try simp only [Act.put, List.setIfInBounds_toArray, List.set_cons_zero, List.set_cons_succ, List.getElem_toArray, List.getElem_cons_zero, List.getElem_cons_succ]
          refine AnyTo.gone (i := 10) (by kernel_rfl) rfl (by rfl) (fun K hK => ?_)
          refine wp_appW (.tmp 14) (.tmp 23) rfl rfl w.heap.size _ N rfl O9.out W8.heap.size 1 t A8 64 c8 rfl Htl.out G9.out V9.out HNl.out hs9 ?_
          intro v' W3 ho3 hg3
          have O3 := Lib.hid ho3
          have B3 := Lib.hid (O9.out.stepB hg3 B9.out hs9)
          have R3 := Lib.hid (R9.out.grown hg3 (S9.out.away O9.out))
          have S3 := Lib.hid (S9.out.grown O9.out hg3)
          clear ho3 hg3 hS9
          refine hK _ _ (fun h => absurd h (by decide)) ?_
          clear hK K
          try simp only [Act.put, List.setIfInBounds_toArray, List.set_cons_zero, List.set_cons_succ, List.getElem_toArray, List.getElem_cons_zero, List.getElem_cons_succ]
          refine AnyTo.gone (i := 11) (by kernel_rfl) rfl (by rfl) (fun K hK => ?_)
          go_simp
          refine hK _ _ (fun h => absurd h (by decide)) ?_
          clear hK K
          try simp only [Act.put, List.setIfInBounds_toArray, List.set_cons_zero, List.set_cons_succ, List.getElem_toArray, List.getElem_cons_zero, List.getElem_cons_succ]
          refine AnyTo.done (by kernel_rfl) ?_ _
          try dsimp only [Exit.then]
          go_wp2_with fail
          go_roundw
          case rel =>
            refine ⟨k + 1, by have := Hs.out; omega, by have := Hs.out; refine congrArg _ ?_; omega, R3.out, ?_, B3.out, S3.out⟩
            rw [pairsN_succ, ← List.append_assoc, ← HN.out, ← Ht.out]
            exact O3.out
          case measure => simp [intOf]; omega
        · have hlt' : ¬ (s : Int) < (n1 : Int) := by omega
          have hk2 : k = (n1 + 1) / 2 := by omega
          rw [hk2, ← hpe.out] at ho
          have G1 := Lib.hid hr
          have O1 := Lib.hid ho
          have B1 := Lib.hid hb
          have hw1 := hb.size
          have HAb := Lib.hid (rabove_any HT.out A1 n1 c1 M wr hr hn1)
          rw [Hup.out] at HAb
          clear hr ho hb hsp hk2 hs hlt hk
          go_wp2_with (first
            | (go_at_call 34; (with_reducible refine HAb.out.mono ?_); rintro e W8 ⟨v8, rfl, ho8, hb8⟩; obtain ⟨A8, c8, e8, hr8⟩ := ho8.rdN; rw [hul.out] at e8 hr8; subst e8; have K8 := Lib.hid ho8; have R8 := Lib.hid hr8; have B8 := Lib.hid (B1.out.trans (hb8.mono hw1)); have O8 := Lib.hid (O1.out.below hb8); clear ho8 hr8 hb8 HAb; dsimp only))
          go_roundw
          case rel =>
            refine ⟨A8, (n1 + 1) / 2, c8, upR tw M, D ++ pairsT M, rfl, R8.out, by omega, O8.out, B8.out, fun _ => Sp.fresh K8.out, ?_⟩
            rw [← GF.out, texts_up (L := M) (by rw [GN.out]; exact H2.out), List.append_assoc]
          case measure => simp; have := H2.out; omega
end Go.Proofs.YtihbmahjdmfjpaaDoor
