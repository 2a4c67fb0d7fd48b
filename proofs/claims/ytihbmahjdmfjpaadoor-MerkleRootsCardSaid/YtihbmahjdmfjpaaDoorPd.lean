/- What the document's side answers: Fold. -/
import Derived.Test.YtihbmahjdmfjpaaDoorPa
import Derived.Test.YtihbmahjdmfjpaaDoorFp
import Derived.Test.YtihbmahjdmfjpaaDoorFr
import Derived.Outline
import Derived.StillTailTactics
namespace Go.Proofs.YtihbmahjdmfjpaaDoor
open Go.RowKit
set_option linter.unusedVariables false
set_option linter.unusedSimpArgs false
set_option maxRecDepth 100000
variable {tw : List (BitVec 8) → List (BitVec 8)}
/-- Between two rounds of the document's Fold. -/
def FqRel (tw : List (BitVec 8) → List (BitVec 8)) (R : Option (List (BitVec 8))) (br : List (List (BitVec 8))) (w : World) (iv nv kv : Value) (wr : World) : Prop :=
  ∃ (f i n k : Nat) (h : List (BitVec 8)), iv = .int .i64 (i : Int) ∧ nv = .int .i64 (n : Int) ∧ kv = .int .i64 (k : Int) ∧ k ≤ br.length ∧ k ≤ 1048576 - n ∧
    HBx wr w.heap.size h ∧ HBx wr (w.heap.size + 1) Z32 ∧ Below w.heap.size w wr ∧ i < n ∧ n ≤ 1048576 ∧ n ≤ f ∧ foldT tw f h i n (br.drop k) = R
theorem sib_odd {i n : Nat} (h : i % 2 = 1) : sib i n = true := by unfold sib; simp [h]
theorem sib_lo {i n : Nat} (h : i + 1 < n) : sib i n = true := by unfold sib; simp [h]
theorem sib_no {i n : Nat} (h : i % 2 = 0) (h2 : n ≤ i + 1) : sib i n = false := by unfold sib; simp; omega
set_option maxHeartbeats 8000000 in
theorem rfold_any (T : RwC tw) (h : List (BitVec 8)) (hh : h.length = 32) (i n : Int) (A : Option Addr) (nb cb : Nat) (br : List (List (BitVec 8))) (w : World) (hi : -9223372036854775808 ≤ i ∧ i ≤ 9223372036854775807) (hn : -9223372036854775808 ≤ n ∧ n ≤ 9223372036854775807) (hR : RdN 32 w A nb cb br) :
    Calls Tryd.prog 21 #[.agg (vbs h).toArray, .int .i64 i, .int .i64 n, .slice A nb cb] w (FoldPost (foldI tw h i n br) w) := by
  have hz := zero25
  have HT := Lib.hid T
  have HR := Lib.hid hR
  have HN := Lib.hid hR.num
  have hbel : Below w.heap.size w ((w.alloc (.cells (vbs h).toArray 25)).alloc (.cells (vbs Z32).toArray 25)) := ((Below.refl _ _).alloc (Nat.le_refl _) _).alloc (by simp) _
  have b0 := (HBx.new w h hh).alloc (.cells (vbs Z32).toArray 25)
  have b1 : HBx ((w.alloc (.cells (vbs h).toArray 25)).alloc (.cells (vbs Z32).toArray 25)) (w.heap.size + 1) Z32 := by
    have := HBx.new (w.alloc (.cells (vbs h).toArray 25)) Z32 rfl
    rwa [World.size_alloc] at this
  have H0 := Lib.hid b0
  have H1 := Lib.hid b1
  have HB := Lib.hid hbel
  clear T hR hh b0 b1 hbel
  by_cases hc : 0 ≤ i ∧ i < n ∧ n ≤ 1048576
  · obtain ⟨hc1, hc2, hc3⟩ := hc
    have e : foldI tw h i n br = foldT tw n.toNat h i.toNat n.toNat br := by unfold foldI; rw [if_pos ⟨hc1, hc2, hc3⟩]
    rw [e]
    obtain ⟨i', rfl⟩ : ∃ k : Nat, i = k := ⟨i.toNat, by omega⟩
    obtain ⟨n', rfl⟩ : ∃ k : Nat, n = k := ⟨n.toNat, by omega⟩
    rw [Int.toNat_natCast, Int.toNat_natCast]
    obtain ⟨R, hRR⟩ : ∃ R, R = foldT tw n' h i' n' br := ⟨_, rfl⟩
    rw [← hRR]
    have HRR := Lib.hid hRR
    have e1 : decide ((i' : Int) < 0) = false := by simp
    have e2 : decide (n' ≤ i') = false := by simp; omega
    have e3 : decide ((1048576 : Int) < (n' : Int)) = false := by simp; omega
    clear hRR e
    go_enter Tryd.func21, Tryd.ntmps21
    go_wp2_with fail
    clear e1 e2 e3
    generalize ((w.alloc (.cells (vbs h).toArray 25)).alloc (.cells (vbs Z32).toArray 25)) = W0 at H0 H1 HB ⊢
    go_loopw [1, 2, 10] (fun iv nv kv wr => FqRel tw R br w iv nv kv wr) (fun _ nv _ _ => (intOf nv).toNat)
    case atStart => exact ⟨n', i', n', 0, h, rfl, rfl, rfl, Nat.zero_le _, Nat.zero_le _, H0.out, H1.out, HB.out, by omega, by omega, Nat.le_refl _, by rw [List.drop_zero]; exact HRR.out.symm⟩
    case round =>
      obtain ⟨f, i, n, k, g, rfl, rfl, rfl, hkb, hkn, h0, h1, hb, hin, hn20, hnf, hfo⟩ := hrel
      obtain ⟨f, rfl⟩ : ∃ k, f = k + 1 := ⟨f - 1, by omega⟩
      have G0 := Lib.hid h0
      have G1 := Lib.hid h1
      have GB := Lib.hid hb
      have GF := Lib.hid hfo
      have G0L := Lib.hid h0.2
      have hszw : w.heap.size + 1 < wr.heap.size := h1.1.lt
      have RG := Lib.hid h0.1.range
      have IG := Lib.hid h0.inf
      have hkb' : k ≤ nb := by rw [← HN.out]; exact hkb
      clear h0 h1 hb hfo H0 H1 HB HRR hc1 hc2 hc3
      have HB0 := Lib.hid built_0
      have KTz := Lib.hid (G1.out.kt Z32_len)
      have IAz := Lib.hid (i25a Z32_len)
      have Bz := Lib.hid (G1.out.set Z32_len)
      have BBz := Lib.hid (below_setCells (B := w.heap.size) (b := w.heap.size + 1) (by omega) (vbs Z32) 0 _ GB.out)
      by_cases hn1 : n ≤ 1
      · have hn1' : ¬ (1 : Int) < (n : Int) := by omega
        by_cases hkl : k = nb
        · have hbs : br.drop k = [] := List.drop_eq_nil_of_le (by rw [HN.out]; omega)
          have hR0 : R = some g := by rw [← GF.out, foldT_one hn1, if_pos hbs]
          subst hR0
          have hne : ((k : Int) != (nb : Int)) = false := by simp; omega
          have hne2 : (k != nb) = false := by simp; omega
          clear hn1 hbs
          have KTf := Lib.hid (G1.out.kt G0L.out)
          have IAf := Lib.hid (i25a G0L.out)
          have Bf := Lib.hid (G1.out.set G0L.out)
          have BBf := Lib.hid (below_setCells (B := w.heap.size) (b := w.heap.size + 1) (by omega) (vbs g) 0 _ GB.out)
          go_wp2_with (first
            | ((with_reducible show wpList _ _ _ ((⟨some 72, _, _, _, _, _⟩ : Oper) :: _) _ _); with_reducible refine wpList_load_mid rfl 25 (.tmp 4) rfl w.heap.size 0 rfl (vbs g) _ RG.out Tryd.underlying25 rfl IG.out ?_)
            | ((with_reducible show wpList _ _ _ ((⟨none, _, _, _, _, _⟩ : Oper) :: _) _ _); with_reducible refine wpList_store_mid rfl 25 (.tmp 8) (.tmp 72) rfl (w.heap.size + 1) 0 (vbs g).toArray rfl rfl KTf.out IAf.out (all_oneCell_toArray (vbs_one _)) ?_))
          have hlv := run_loadVar_mid (P := Tryd.prog) (wr.setCells (w.heap.size + 1) 0 (vbs g)) (w.heap.size + 1) 0 25 _ _ Bf.out.1.range Tryd.underlying25 rfl Bf.out.inf
          exact bodyPost_ret (v := .tuple #[.agg (vbs g).toArray, .bool true]) (by simp [results, Tryd.results21, asAddr, Act.put, hlv]) rfl ⟨rfl, G0L.out, BBf.out⟩
        · have hbs : br.drop k ≠ [] := fun e => hkl (by have := congrArg List.length e; rw [List.length_drop, HN.out] at this; simp at this; omega)
          have hR0 : R = none := by rw [← GF.out, foldT_one hn1, if_neg hbs]
          subst hR0
          have hne : ((k : Int) != (nb : Int)) = true := by simp; omega
          have hne2 : (k != nb) = true := by simp; omega
          clear hn1 hbs hkl
          go_wp2_with (first
            | ((with_reducible show wpList _ _ _ ((⟨some 71, _, _, _, _, _⟩ : Oper) :: _) _ _); refine wpList_hash rfl _ rfl [] Z32 rfl HB0.out ?_)
            | ((with_reducible show wpList _ _ _ ((⟨none, _, _, _, _, _⟩ : Oper) :: _) _ _); with_reducible refine wpList_store_mid rfl 25 (.tmp 8) (.tmp 71) rfl (w.heap.size + 1) 0 (vbs Z32).toArray rfl rfl KTz.out IAz.out (all_oneCell_toArray (vbs_one _)) ?_))
          have hlv := run_loadVar_mid (P := Tryd.prog) (wr.setCells (w.heap.size + 1) 0 (vbs Z32)) (w.heap.size + 1) 0 25 _ _ Bz.out.1.range Tryd.underlying25 rfl Bz.out.inf
          exact bodyPost_ret (v := .tuple #[.agg (vbs Z32).toArray, .bool false]) (by simp [results, Tryd.results21, asAddr, Act.put, hlv]) rfl ⟨rfl, Z32_len, BBz.out⟩
      · have hn1' : (1 : Int) < (n : Int) := by omega
        have Hn1 := Lib.hid hn1
        by_cases hcd : i % 2 = 0 ∧ n ≤ i + 1
        · obtain ⟨hp, hge⟩ := hcd
          have hp' : ((i : Int) % 2 == 0) = true := by simp; omega
          have hge' : decide ((n : Int) ≤ (i : Int) + 1) = true := by simp; omega
          have Hsib := Lib.hid (sib_no (n := n) hp hge)
          have Hp := Lib.hid hp
          clear hn1 hp KTz IAz Bz BBz
          obtain ⟨t, ht⟩ : ∃ t, t = g ++ g := ⟨_, rfl⟩
          have Htl := Lib.hid (show t.length = 64 by rw [ht, List.length_append]; have := G0L.out; omega)
          have Ht := Lib.hid ht
          have HTx := Lib.hid (text_any g g G0L.out G0L.out wr)
          rw [← ht] at HTx
          clear ht
          obtain ⟨N, hN⟩ : ∃ N, N = tw t := ⟨_, rfl⟩
          have HNt := Lib.hid hN
          have HNl := Lib.hid (show N.length = 32 by rw [hN]; exact HT.out.len _)
          have INa := Lib.hid (i25a HNl.out)
          clear hN
          go_wp2_with (first
            | ((with_reducible show wpList _ _ _ ((⟨some 34, _, _, _, _, _⟩ : Oper) :: _) _ _); with_reducible refine wpList_load_mid rfl 25 (.tmp 4) rfl w.heap.size 0 rfl (vbs g) _ RG.out Tryd.underlying25 rfl IG.out ?_)
            | ((with_reducible show wpList _ _ _ ((⟨some 35, _, _, _, _, _⟩ : Oper) :: _) _ _); with_reducible refine wpList_load_mid rfl 25 (.tmp 4) rfl w.heap.size 0 rfl (vbs g) _ RG.out Tryd.underlying25 rfl IG.out ?_)
            | (go_at_call 35; (with_reducible refine HTx.out.mono ?_); rintro e W2 ⟨v2, rfl, ho, hb2⟩; obtain ⟨A8, c8, rfl, hr8, hl8, _, hz8⟩ := ho.rd; have HC := Lib.hid (HT.out.call A8 c8 t W2 hr8 hl8 hz8 (by rw [Htl.out]; decide)); rw [← HNt.out] at HC; have E2 := Lib.hid (G0.out.below hb2); have F2 := Lib.hid (G1.out.below hb2); have B2 := Lib.hid (GB.out.trans (hb2.mono GB.out.size)); clear ho hr8 hl8 hz8 hb2 HTx; dsimp only)
            | (go_at_call 40; (with_reducible refine HC.out.mono ?_); rintro e W9 ⟨rfl, hb9⟩; have E9 := Lib.hid (E2.out.below hb9); have F9 := Lib.hid (F2.out.below hb9); have B9 := Lib.hid (B2.out.trans (hb9.mono B2.out.size)); have KT9 := Lib.hid ((E2.out.below hb9).kt HNl.out); clear hb9 HC; dsimp only)
            | ((with_reducible show wpList _ _ _ ((⟨none, _, _, _, _, _⟩ : Oper) :: _) _ _); with_reducible refine wpList_store_mid rfl 25 (.tmp 4) (.tmp 37) rfl w.heap.size 0 (vbs N).toArray rfl rfl KT9.out INa.out (all_oneCell_toArray (vbs_one _)) ?_))
          go_roundw
          case rel =>
            refine ⟨f, i / 2, (n + 1) / 2, k, N, by go_num, by go_num, rfl, hkb, by omega, E9.out.set HNl.out, F9.out.other (by omega) _, below_setCells (B := w.heap.size) (Nat.le_refl _) (vbs N) 0 _ B9.out, by omega, by omega, by omega, ?_⟩
            rw [← GF.out, HNt.out, Ht.out]
            simp [foldT, Hn1.out, Hsib.out, Hp.out]
          case measure => simp [intOf]; omega
        · have Hsib : Hid (sib i n = true) := show sib i n = true by
            by_cases hp : i % 2 = 1
            · exact sib_odd hp
            · exact sib_lo (by omega)
          by_cases hkl : k < nb
          · obtain ⟨b, o, rfl, hbb, hpk⟩ := HR.out.pick (by omega) (by omega)
            obtain ⟨y, hy⟩ : ∃ y, y = br.getD k [] := ⟨_, rfl⟩
            have GYL := Lib.hid (show y.length = 32 by rw [hy]; exact (hpk k hkl).2)
            have hdr : br.drop k = y :: br.drop (k + 1) := by
              rw [List.drop_eq_getElem_cons (by rw [HN.out]; exact hkl), hy]
              simp [List.getD, show k < br.length by rw [HN.out]; exact hkl]
            have Hdr := Lib.hid hdr
            have RY := Lib.hid (show wr.rangeAt b (o + k * 32) (vbs y) from fun j u hj => (GB.out.cell (p := ⟨b, o + k * 32 + j, none⟩) hbb).trans ((hpk k hkl).1 j u (by rw [← hy]; exact hj)))
            have hbw : b < wr.heap.size := by omega
            have IY := Lib.hid (i25' (vs := vbs y) (by rw [vbs_len]; exact GYL.out))
            have hkl' : (k : Int) < (nb : Int) := by omega
            have hkge : ¬ (nb : Int) ≤ (k : Int) := by omega
            clear hn1 hy hdr hpk KTz IAz Bz BBz
            by_cases hp : i % 2 = 0
            · have hp' : ((i : Int) % 2 == 0) = true := by simp; omega
              have hge' : decide ((n : Int) ≤ (i : Int) + 1) = false := by simp; omega
              have Hp := Lib.hid hp
              clear hp hcd
              obtain ⟨t, ht⟩ : ∃ t, t = g ++ y := ⟨_, rfl⟩
              have Htl := Lib.hid (show t.length = 64 by rw [ht, List.length_append]; have h1 := G0L.out; have h2 := GYL.out; omega)
              have Ht := Lib.hid ht
              have HTx : Hid (∀ w', Calls Tryd.prog 35 #[.agg (vbs g).toArray, .agg (vbs y).toArray] w' (OBPost t w')) := fun w' => by
                rw [ht]; exact text_any g y G0L.out GYL.out w'
              clear ht
              obtain ⟨N, hN⟩ : ∃ N, N = tw t := ⟨_, rfl⟩
              have HNt := Lib.hid hN
              have HNl := Lib.hid (show N.length = 32 by rw [hN]; exact HT.out.len _)
              have INa := Lib.hid (i25a HNl.out)
              clear hN
              go_upto_region 10 with fail
              refine wp_region_to (z := 7) (SBw wr) (by kernel_rfl) ?_
              have hS : (SBw wr) wr.drew := SBw.start wr
              refine AnyTo.take (i := 0) (v := .agg (vbs g).toArray) rfl (by kernel_rfl) (by kernel_rfl) (by kernel_rfl) (by kernel_rfl) (by kernel_rfl) (fun _ _ _ h => h) ?_ hS ?_
              · exact yieldsIf_load_mid (by rfl) 25 (.tmp 4) rfl (w.heap.size) 0 rfl (vbs g) _ (fun _ h => (G0.out.below h).1.range) Tryd.underlying25 rfl IG.out
              try simp only [Act.put, List.setIfInBounds_toArray, List.set_cons_zero, List.set_cons_succ, List.getElem_toArray, List.getElem_cons_zero, List.getElem_cons_succ]
              refine AnyTo.take (i := 1) (v := ?_) rfl (by kernel_rfl) (by kernel_rfl) (by kernel_rfl) (by kernel_rfl) (by kernel_rfl) (fun _ _ _ h => h) (Or.inl ⟨by rfl, ?_⟩) hS ?_
              rotate_left
              · (intro wq hq; go_simp; try with_reducible rfl)
              try simp only [Act.put, List.setIfInBounds_toArray, List.set_cons_zero, List.set_cons_succ, List.getElem_toArray, List.getElem_cons_zero, List.getElem_cons_succ]
              refine AnyTo.take (i := 2) (v := ?_) rfl (by kernel_rfl) (by kernel_rfl) (by kernel_rfl) (by kernel_rfl) (by kernel_rfl) (fun _ _ _ h => h) (Or.inl ⟨by rfl, ?_⟩) hS ?_
              rotate_left
              · (intro wq hq; go_simp; try with_reducible rfl)
              try simp only [Act.put, List.setIfInBounds_toArray, List.set_cons_zero, List.set_cons_succ, List.getElem_toArray, List.getElem_cons_zero, List.getElem_cons_succ]
              refine AnyTo.take (i := 3) (v := .pointer (some ⟨b, o + k * 32, none⟩)) rfl (by kernel_rfl) (by kernel_rfl) (by kernel_rfl) (by kernel_rfl) (by kernel_rfl) (fun _ _ _ h => h) (Or.inl ⟨by rfl, ?_⟩) hS ?_
              · (intro wq hq; go_simp)
              try simp only [Act.put, List.setIfInBounds_toArray, List.set_cons_zero, List.set_cons_succ, List.getElem_toArray, List.getElem_cons_zero, List.getElem_cons_succ]
              refine AnyTo.take (i := 4) (v := .agg (vbs y).toArray) rfl (by kernel_rfl) (by kernel_rfl) (by kernel_rfl) (by kernel_rfl) (by kernel_rfl) (fun _ _ _ h => h) ?_ hS ?_
              · exact yieldsIf_load_mid (by rfl) 25 (.tmp 49) rfl (b) (o + k * 32) rfl (vbs y) _ (fun _ h => fun q u hq => (h.cell (p := ⟨b, o + k * 32 + q, none⟩) hbw).trans (RY.out q u hq)) Tryd.underlying25 rfl IY.out
              try simp only [Act.put, List.setIfInBounds_toArray, List.set_cons_zero, List.set_cons_succ, List.getElem_toArray, List.getElem_cons_zero, List.getElem_cons_succ]
              refine AnyTo.gone (i := 5) (by kernel_rfl) rfl (by rfl) (fun K hK => ?_)
              go_simp
              have hC := HTx.out wr.drew
              (with_reducible refine hC.mono ?_)
              rintro e W8 ⟨v8, rfl, ho8, hb8⟩
              dsimp only
              have hS8 : SBw wr W8 := SBw.next hS hb8
              obtain ⟨A8, c8, rfl, hr8, hl8, _, hz8⟩ := ho8.rd
              have hT := HT.out.call A8 c8 t W8 hr8 hl8 hz8 (by rw [Htl.out]; decide)
              rw [← HNt.out] at hT
              clear hS hb8 hC ho8 hr8 hl8 hz8
              refine hK _ _ (fun _ => hS8) ?_
              clear hK K
              try simp only [Act.put, List.setIfInBounds_toArray, List.set_cons_zero, List.set_cons_succ, List.getElem_toArray, List.getElem_cons_zero, List.getElem_cons_succ]
              have hS := hS8
              refine AnyTo.gone (i := 6) (by kernel_rfl) rfl (by rfl) (fun K hK => ?_)
              go_simp
              (with_reducible refine hT.mono ?_)
              rintro e W9 ⟨rfl, hb9⟩
              dsimp only
              have hS9 : SBw wr W9 := SBw.next hS8 hb9
              clear hS hS8 hb9 hT
              have E9 := Lib.hid (G0.out.below hS9)
              have F9 := Lib.hid (G1.out.below hS9)
              have B9 := Lib.hid (GB.out.trans (Below.mono hS9 GB.out.size))
              have KT9 := Lib.hid (E9.out.kt HNl.out)
              refine hK _ _ (fun _ => hS9) ?_
              clear hK K
              try simp only [Act.put, List.setIfInBounds_toArray, List.set_cons_zero, List.set_cons_succ, List.getElem_toArray, List.getElem_cons_zero, List.getElem_cons_succ]
              refine AnyTo.gone (i := 7) (by kernel_rfl) rfl (by rfl) (fun K hK => ?_)
              refine wp_store_mid 25 (.tmp 4) (.tmp 52) rfl w.heap.size 0 (vbs N).toArray rfl rfl KT9.out INa.out (all_oneCell_toArray (vbs_one _)) ?_
              rw [List.toList_toArray]
              refine hK _ _ (fun h => absurd h (by decide)) ?_
              clear hK K
              try simp only [Act.put, List.setIfInBounds_toArray, List.set_cons_zero, List.set_cons_succ, List.getElem_toArray, List.getElem_cons_zero, List.getElem_cons_succ]
              refine AnyTo.done (by kernel_rfl) ?_ _
              try dsimp only [Exit.then]
              clear hS9
              have E10 := Lib.hid (E9.out.set HNl.out)
              have F10 := Lib.hid (F9.out.other (g' := w.heap.size) (by omega) (vbs N))
              have B10 := Lib.hid (below_setCells (B := w.heap.size) (Nat.le_refl _) (vbs N) 0 _ B9.out)
              generalize (W9.setCells w.heap.size 0 (vbs N)) = W10 at E10 F10 B10 ⊢
              go_wp2_with fail
              go_roundw
              case rel =>
                refine ⟨f, i / 2, (n + 1) / 2, k + 1, N, by go_num, by go_num, by go_num, by rw [HN.out]; omega, by omega, E10.out, F10.out, B10.out, by omega, by omega, by omega, ?_⟩
                rw [← GF.out, Hdr.out, HNt.out, Ht.out]
                simp [foldT, Hn1.out, Hsib.out, Hp.out]
              case measure => simp [intOf]; omega
            · have hp' : ((i : Int) % 2 == 0) = false := by simp; omega
              have Hp := Lib.hid hp
              clear hp hcd
              obtain ⟨t, ht⟩ : ∃ t, t = y ++ g := ⟨_, rfl⟩
              have Htl := Lib.hid (show t.length = 64 by rw [ht, List.length_append]; have h1 := G0L.out; have h2 := GYL.out; omega)
              have Ht := Lib.hid ht
              have HTx : Hid (∀ w', Calls Tryd.prog 35 #[.agg (vbs y).toArray, .agg (vbs g).toArray] w' (OBPost t w')) := fun w' => by
                rw [ht]; exact text_any y g GYL.out G0L.out w'
              clear ht
              obtain ⟨N, hN⟩ : ∃ N, N = tw t := ⟨_, rfl⟩
              have HNt := Lib.hid hN
              have HNl := Lib.hid (show N.length = 32 by rw [hN]; exact HT.out.len _)
              have INa := Lib.hid (i25a HNl.out)
              clear hN
              go_upto_region 11 with fail
              refine wp_region_to (z := 7) (SBw wr) (by kernel_rfl) ?_
              have hS : (SBw wr) wr.drew := SBw.start wr
              refine AnyTo.take (i := 0) (v := ?_) rfl (by kernel_rfl) (by kernel_rfl) (by kernel_rfl) (by kernel_rfl) (by kernel_rfl) (fun _ _ _ h => h) (Or.inl ⟨by rfl, ?_⟩) hS ?_
              rotate_left
              · (intro wq hq; go_simp; try with_reducible rfl)
              try simp only [Act.put, List.setIfInBounds_toArray, List.set_cons_zero, List.set_cons_succ, List.getElem_toArray, List.getElem_cons_zero, List.getElem_cons_succ]
              refine AnyTo.take (i := 1) (v := ?_) rfl (by kernel_rfl) (by kernel_rfl) (by kernel_rfl) (by kernel_rfl) (by kernel_rfl) (fun _ _ _ h => h) (Or.inl ⟨by rfl, ?_⟩) hS ?_
              rotate_left
              · (intro wq hq; go_simp; try with_reducible rfl)
              try simp only [Act.put, List.setIfInBounds_toArray, List.set_cons_zero, List.set_cons_succ, List.getElem_toArray, List.getElem_cons_zero, List.getElem_cons_succ]
              refine AnyTo.take (i := 2) (v := .pointer (some ⟨b, o + k * 32, none⟩)) rfl (by kernel_rfl) (by kernel_rfl) (by kernel_rfl) (by kernel_rfl) (by kernel_rfl) (fun _ _ _ h => h) (Or.inl ⟨by rfl, ?_⟩) hS ?_
              · (intro wq hq; go_simp)
              try simp only [Act.put, List.setIfInBounds_toArray, List.set_cons_zero, List.set_cons_succ, List.getElem_toArray, List.getElem_cons_zero, List.getElem_cons_succ]
              refine AnyTo.take (i := 3) (v := .agg (vbs y).toArray) rfl (by kernel_rfl) (by kernel_rfl) (by kernel_rfl) (by kernel_rfl) (by kernel_rfl) (fun _ _ _ h => h) ?_ hS ?_
              · exact yieldsIf_load_mid (by rfl) 25 (.tmp 55) rfl (b) (o + k * 32) rfl (vbs y) _ (fun _ h => fun q u hq => (h.cell (p := ⟨b, o + k * 32 + q, none⟩) hbw).trans (RY.out q u hq)) Tryd.underlying25 rfl IY.out
              try simp only [Act.put, List.setIfInBounds_toArray, List.set_cons_zero, List.set_cons_succ, List.getElem_toArray, List.getElem_cons_zero, List.getElem_cons_succ]
              refine AnyTo.take (i := 4) (v := .agg (vbs g).toArray) rfl (by kernel_rfl) (by kernel_rfl) (by kernel_rfl) (by kernel_rfl) (by kernel_rfl) (fun _ _ _ h => h) ?_ hS ?_
              · exact yieldsIf_load_mid (by rfl) 25 (.tmp 4) rfl (w.heap.size) 0 rfl (vbs g) _ (fun _ h => (G0.out.below h).1.range) Tryd.underlying25 rfl IG.out
              try simp only [Act.put, List.setIfInBounds_toArray, List.set_cons_zero, List.set_cons_succ, List.getElem_toArray, List.getElem_cons_zero, List.getElem_cons_succ]
              refine AnyTo.gone (i := 5) (by kernel_rfl) rfl (by rfl) (fun K hK => ?_)
              go_simp
              have hC := HTx.out wr.drew
              (with_reducible refine hC.mono ?_)
              rintro e W8 ⟨v8, rfl, ho8, hb8⟩
              dsimp only
              have hS8 : SBw wr W8 := SBw.next hS hb8
              obtain ⟨A8, c8, rfl, hr8, hl8, _, hz8⟩ := ho8.rd
              have hT := HT.out.call A8 c8 t W8 hr8 hl8 hz8 (by rw [Htl.out]; decide)
              rw [← HNt.out] at hT
              clear hS hb8 hC ho8 hr8 hl8 hz8
              refine hK _ _ (fun _ => hS8) ?_
              clear hK K
              try simp only [Act.put, List.setIfInBounds_toArray, List.set_cons_zero, List.set_cons_succ, List.getElem_toArray, List.getElem_cons_zero, List.getElem_cons_succ]
              have hS := hS8
              refine AnyTo.gone (i := 6) (by kernel_rfl) rfl (by rfl) (fun K hK => ?_)
              go_simp
              (with_reducible refine hT.mono ?_)
              rintro e W9 ⟨rfl, hb9⟩
              dsimp only
              have hS9 : SBw wr W9 := SBw.next hS8 hb9
              clear hS hS8 hb9 hT
              have E9 := Lib.hid (G0.out.below hS9)
              have F9 := Lib.hid (G1.out.below hS9)
              have B9 := Lib.hid (GB.out.trans (Below.mono hS9 GB.out.size))
              have KT9 := Lib.hid (E9.out.kt HNl.out)
              refine hK _ _ (fun _ => hS9) ?_
              clear hK K
              try simp only [Act.put, List.setIfInBounds_toArray, List.set_cons_zero, List.set_cons_succ, List.getElem_toArray, List.getElem_cons_zero, List.getElem_cons_succ]
              refine AnyTo.gone (i := 7) (by kernel_rfl) rfl (by rfl) (fun K hK => ?_)
              refine wp_store_mid 25 (.tmp 4) (.tmp 59) rfl w.heap.size 0 (vbs N).toArray rfl rfl KT9.out INa.out (all_oneCell_toArray (vbs_one _)) ?_
              rw [List.toList_toArray]
              refine hK _ _ (fun h => absurd h (by decide)) ?_
              clear hK K
              try simp only [Act.put, List.setIfInBounds_toArray, List.set_cons_zero, List.set_cons_succ, List.getElem_toArray, List.getElem_cons_zero, List.getElem_cons_succ]
              refine AnyTo.done (by kernel_rfl) ?_ _
              try dsimp only [Exit.then]
              clear hS9
              have E10 := Lib.hid (E9.out.set HNl.out)
              have F10 := Lib.hid (F9.out.other (g' := w.heap.size) (by omega) (vbs N))
              have B10 := Lib.hid (below_setCells (B := w.heap.size) (Nat.le_refl _) (vbs N) 0 _ B9.out)
              generalize (W9.setCells w.heap.size 0 (vbs N)) = W10 at E10 F10 B10 ⊢
              go_wp2_with fail
              go_roundw
              case rel =>
                refine ⟨f, i / 2, (n + 1) / 2, k + 1, N, by go_num, by go_num, by go_num, by rw [HN.out]; omega, by omega, E10.out, F10.out, B10.out, by omega, by omega, by omega, ?_⟩
                rw [← GF.out, Hdr.out, HNt.out, Ht.out]
                simp [foldT, Hn1.out, Hsib.out, Hp.out]
              case measure => simp [intOf]; omega
          · have hR0 : R = none := by
              rw [← GF.out, fold_step Hn1.out, Hsib.out, if_pos rfl, List.drop_eq_nil_of_le (by rw [HN.out]; omega)]
            subst hR0
            have hkge : (nb : Int) ≤ (k : Int) := by omega
            clear hn1
            by_cases hp : i % 2 = 0
            · have hp' : ((i : Int) % 2 == 0) = true := by simp; omega
              have hge' : decide ((n : Int) ≤ (i : Int) + 1) = false := by simp; omega
              clear hp hcd
              go_wp2_with (first
                | ((with_reducible show wpList _ _ _ ((⟨some 42, _, _, _, _, _⟩ : Oper) :: _) _ _); refine wpList_hash rfl _ rfl [] Z32 rfl HB0.out ?_)
                | ((with_reducible show wpList _ _ _ ((⟨none, _, _, _, _, _⟩ : Oper) :: _) _ _); with_reducible refine wpList_store_mid rfl 25 (.tmp 8) (.tmp 42) rfl (w.heap.size + 1) 0 (vbs Z32).toArray rfl rfl KTz.out IAz.out (all_oneCell_toArray (vbs_one _)) ?_))
              have hlv := run_loadVar_mid (P := Tryd.prog) (wr.setCells (w.heap.size + 1) 0 (vbs Z32)) (w.heap.size + 1) 0 25 _ _ Bz.out.1.range Tryd.underlying25 rfl Bz.out.inf
              exact bodyPost_ret (v := .tuple #[.agg (vbs Z32).toArray, .bool false]) (by simp [results, Tryd.results21, asAddr, Act.put, hlv]) rfl ⟨rfl, Z32_len, BBz.out⟩
            · have hp' : ((i : Int) % 2 == 0) = false := by simp; omega
              clear hp hcd
              go_wp2_with (first
                | ((with_reducible show wpList _ _ _ ((⟨some 42, _, _, _, _, _⟩ : Oper) :: _) _ _); refine wpList_hash rfl _ rfl [] Z32 rfl HB0.out ?_)
                | ((with_reducible show wpList _ _ _ ((⟨none, _, _, _, _, _⟩ : Oper) :: _) _ _); with_reducible refine wpList_store_mid rfl 25 (.tmp 8) (.tmp 42) rfl (w.heap.size + 1) 0 (vbs Z32).toArray rfl rfl KTz.out IAz.out (all_oneCell_toArray (vbs_one _)) ?_))
              have hlv := run_loadVar_mid (P := Tryd.prog) (wr.setCells (w.heap.size + 1) 0 (vbs Z32)) (w.heap.size + 1) 0 25 _ _ Bz.out.1.range Tryd.underlying25 rfl Bz.out.inf
              exact bodyPost_ret (v := .tuple #[.agg (vbs Z32).toArray, .bool false]) (by simp [results, Tryd.results21, asAddr, Act.put, hlv]) rfl ⟨rfl, Z32_len, BBz.out⟩
  · have e : foldI tw h i n br = none := by unfold foldI; rw [if_neg hc]
    rw [e]
    have HB0 := Lib.hid built_0
    by_cases h1 : i < 0
    · have h1b : decide (i < 0) = true := by simpa using h1
      clear hc e hi hn HR
      go_enter Tryd.func21, Tryd.ntmps21
      go_upto_region 2 with fail
      generalize ((w.alloc (.cells (vbs h).toArray 25)).alloc (.cells (vbs Z32).toArray 25)) = W0 at H0 H1 HB ⊢
      have KTf := Lib.hid (H1.out.kt Z32_len)
      have IAf := Lib.hid (i25a Z32_len)
      have Bf := Lib.hid (H1.out.set Z32_len)
      have BBf := Lib.hid (below_setCells (B := w.heap.size) (b := w.heap.size + 1) (by omega) (vbs Z32) 0 _ HB.out)
      go_wp2_with (first
        | ((with_reducible show wpList _ _ _ ((⟨some 22, _, _, _, _, _⟩ : Oper) :: _) _ _); refine wpList_hash rfl _ rfl [] Z32 rfl HB0.out ?_)
        | ((with_reducible show wpList _ _ _ ((⟨none, _, _, _, _, _⟩ : Oper) :: _) _ _); with_reducible refine wpList_store_mid rfl 25 (.tmp 8) (.tmp 22) rfl (w.heap.size + 1) 0 (vbs Z32).toArray rfl rfl KTf.out IAf.out (all_oneCell_toArray (vbs_one _)) ?_))
      have hlv := run_loadVar_mid (P := Tryd.prog) (W0.setCells (w.heap.size + 1) 0 (vbs Z32)) (w.heap.size + 1) 0 25 _ _ Bf.out.1.range Tryd.underlying25 rfl Bf.out.inf
      exact bodyPost_ret (v := .tuple #[.agg (vbs Z32).toArray, .bool false]) (by simp [results, Tryd.results21, asAddr, Act.put, hlv]) rfl ⟨rfl, Z32_len, BBf.out⟩
    by_cases h2 : n ≤ i
    · have h1b : decide (i < 0) = false := by simpa using h1
      have h2b : decide (n ≤ i) = true := by simpa using h2
      clear hc e hi hn HR
      go_enter Tryd.func21, Tryd.ntmps21
      go_upto_region 2 with fail
      generalize ((w.alloc (.cells (vbs h).toArray 25)).alloc (.cells (vbs Z32).toArray 25)) = W0 at H0 H1 HB ⊢
      have KTf := Lib.hid (H1.out.kt Z32_len)
      have IAf := Lib.hid (i25a Z32_len)
      have Bf := Lib.hid (H1.out.set Z32_len)
      have BBf := Lib.hid (below_setCells (B := w.heap.size) (b := w.heap.size + 1) (by omega) (vbs Z32) 0 _ HB.out)
      go_wp2_with (first
        | ((with_reducible show wpList _ _ _ ((⟨some 22, _, _, _, _, _⟩ : Oper) :: _) _ _); refine wpList_hash rfl _ rfl [] Z32 rfl HB0.out ?_)
        | ((with_reducible show wpList _ _ _ ((⟨none, _, _, _, _, _⟩ : Oper) :: _) _ _); with_reducible refine wpList_store_mid rfl 25 (.tmp 8) (.tmp 22) rfl (w.heap.size + 1) 0 (vbs Z32).toArray rfl rfl KTf.out IAf.out (all_oneCell_toArray (vbs_one _)) ?_))
      have hlv := run_loadVar_mid (P := Tryd.prog) (W0.setCells (w.heap.size + 1) 0 (vbs Z32)) (w.heap.size + 1) 0 25 _ _ Bf.out.1.range Tryd.underlying25 rfl Bf.out.inf
      exact bodyPost_ret (v := .tuple #[.agg (vbs Z32).toArray, .bool false]) (by simp [results, Tryd.results21, asAddr, Act.put, hlv]) rfl ⟨rfl, Z32_len, BBf.out⟩
    have h3 : (1048576 : Int) < n := by omega
    have h1b : decide (i < 0) = false := by simpa using h1
    have h2b : decide (n ≤ i) = false := by simpa using h2
    have h3b : decide ((1048576 : Int) < n) = true := by simpa using h3
    clear hc e hi hn HR
    go_enter Tryd.func21, Tryd.ntmps21
    go_upto_region 2 with fail
    generalize ((w.alloc (.cells (vbs h).toArray 25)).alloc (.cells (vbs Z32).toArray 25)) = W0 at H0 H1 HB ⊢
    have KTf := Lib.hid (H1.out.kt Z32_len)
    have IAf := Lib.hid (i25a Z32_len)
    have Bf := Lib.hid (H1.out.set Z32_len)
    have BBf := Lib.hid (below_setCells (B := w.heap.size) (b := w.heap.size + 1) (by omega) (vbs Z32) 0 _ HB.out)
    go_wp2_with (first
      | ((with_reducible show wpList _ _ _ ((⟨some 22, _, _, _, _, _⟩ : Oper) :: _) _ _); refine wpList_hash rfl _ rfl [] Z32 rfl HB0.out ?_)
      | ((with_reducible show wpList _ _ _ ((⟨none, _, _, _, _, _⟩ : Oper) :: _) _ _); with_reducible refine wpList_store_mid rfl 25 (.tmp 8) (.tmp 22) rfl (w.heap.size + 1) 0 (vbs Z32).toArray rfl rfl KTf.out IAf.out (all_oneCell_toArray (vbs_one _)) ?_))
    have hlv := run_loadVar_mid (P := Tryd.prog) (W0.setCells (w.heap.size + 1) 0 (vbs Z32)) (w.heap.size + 1) 0 25 _ _ Bf.out.1.range Tryd.underlying25 rfl Bf.out.inf
    exact bodyPost_ret (v := .tuple #[.agg (vbs Z32).toArray, .bool false]) (by simp [results, Tryd.results21, asAddr, Act.put, hlv]) rfl ⟨rfl, Z32_len, BBf.out⟩
end Go.Proofs.YtihbmahjdmfjpaaDoor
