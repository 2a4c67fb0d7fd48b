/- What header.ID and the document's own ID return: the double digest of a header's bytes. -/
import Derived.Test.YtefiacnpbkancaaDoorHd
import Derived.Test.YtefiacnpbkancaaDoorXh
namespace Go.Proofs.YtefiacnpbkancaaDoor
open Go.RowKit
set_option linter.unusedVariables false
set_option linter.unusedSimpArgs false
set_option maxRecDepth 100000
theorem HdAt.range {w : World} {b : Nat} {h : THd} (H : HdAt w b h) : w.rangeAt b 0 (hdV h) := H.1
theorem info26 {h : THd} (k : HdOk h) : (Tryd.prog.info? 26).map (·.size) = some (hdV h).length := by rw [hdV_len k]; kernel_rfl
theorem zero24 : ∀ w, (zeroValue 24).run Tryd.prog w = .ok (.agg (vbs Z32).toArray) w := fun _ => by kernel_rfl
theorem OB.slice {w : World} {B : Nat} {v : Value} {L : List (BitVec 8)} {n : Nat} (h : OB w B v L) (hn : L.length = n) : ∃ A c, v = .slice A n c ∧ Rd w w.heap.size A L ∧ n ≤ c ∧ (A = none → c = 0) := by
  obtain ⟨A, c, e, hr, h1, _, h3⟩ := h.rd
  subst hn
  exact ⟨A, c, e, hr, h1, h3⟩
set_option maxHeartbeats 4000000 in
theorem hid_any (h : THd) (k : HdOk h) (w : World) (hG : Glob w) : Calls Tryd.prog 9 #[.agg (hdV h).toArray] w fun e w' => e = .returned (.agg (vbs (twiceB (hdB h))).toArray) ∧ Below w.heap.size w w' := by
  have hz := zero24
  have es : (w.alloc (.cells (hdV h).toArray 26)).heap.size = w.heap.size + 1 := by simp
  have hT0 := Blk.new (w.alloc (.cells (hdV h).toArray 26)) 24 (vbs Z32).toArray
  rw [es, List.toList_toArray] at hT0
  have hH0 : HdAt ((w.alloc (.cells (hdV h).toArray 26)).alloc (.cells (vbs Z32).toArray 24)) w.heap.size h := ⟨((Blk.new w 26 (hdV h).toArray).alloc _).range, by simp; omega⟩
  have hB0 : Below w.heap.size w ((w.alloc (.cells (hdV h).toArray 26)).alloc (.cells (vbs Z32).toArray 24)) := ((Below.refl _ _).alloc (Nat.le_refl _) _).alloc (by simp) _
  obtain ⟨D, hD⟩ : ∃ D, D = twiceB (hdB h) := ⟨_, rfl⟩
  have HDl := Lib.hid (show D.length = 32 by rw [hD]; exact sumB_len _)
  have K := Lib.hid (fun wq => hput_any h k wq)
  have KT : Hid (∀ (A : Option Addr) (c : Nat) (wq : World), Glob wq → Rd wq wq.heap.size A (hdB h) → 80 ≤ c → (A = none → c = 0) → Calls Tryd.prog 16 #[.slice A 80 c] wq fun e w' => e = .returned (.agg (vbs D).toArray) ∧ Below wq.heap.size wq w') := fun A c wq g1 g2 g3 g4 => by
    have := twice_any A c (hdB h) wq g1 g2 (by rw [hdB_len k]; exact g3) (by rw [hdB_len k]; omega)
    rw [hdB_len k, ← hD] at this
    exact this
  have HI := Lib.hid (info26 k)
  have HL80 := Lib.hid (hdB_len k)
  have HG := Lib.hid hG
  have HT := Lib.hid hT0
  have HH := Lib.hid hH0
  have HB := Lib.hid hB0
  rw [← hD]
  obtain ⟨V, hV⟩ : ∃ V, V = (hdV h).toArray := ⟨_, rfl⟩
  rw [← hV] at HT HH HB ⊢
  have HV := Lib.hid hV
  have es' : Hid ((w.alloc (.cells V 26)).heap.size = w.heap.size + 1) := show (w.alloc (.cells V 26)).heap.size = w.heap.size + 1 by simp
  clear hT0 hH0 hB0 hG k hD hV es
  go_enter Tryd.func9, Tryd.ntmps9
  go_upto_region 1 with fail
  generalize hW1 : (w.alloc (.cells V 26)).alloc (.cells (vbs Z32).toArray 24) = W1 at HT HH HB ⊢
  clear hW1 hz
  go_wp2_with (first
    | (with_reducible refine wpList_load_mid rfl 26 (.tmp 1) rfl w.heap.size 0 rfl (hdV h) _ HH.out.range Tryd.underlying26 rfl HI.out ?_)
    | (go_at_call 7; (with_reducible refine (K.out _).mono ?_); rintro e w2 ⟨v2, rfl, ho2, hb2⟩; obtain ⟨A2, c2, rfl, hr2, hc2, hn2⟩ := ho2.slice HL80.out; have HR2 := Lib.hid hr2; have HC2 := Lib.hid hc2; have HN2 := Lib.hid hn2; have HB2 := Lib.hid hb2; clear ho2 hr2 hc2 hn2 hb2; dsimp only)
    | (go_at_call 16; (with_reducible refine (KT.out _ _ _ (HG.out.below (HB.out.trans (HB2.out.mono HB.out.size))) HR2.out HC2.out HN2.out).mono ?_); rintro e w3 ⟨rfl, hb3⟩; have HB3 := Lib.hid hb3; have HT3 := Lib.hid ((HT.out.below HB2.out HT.out.lt).below hb3 (HT.out.below HB2.out HT.out.lt).lt); clear hb3; dsimp only)
    | (with_reducible refine wpList_store_mid rfl 24 (.tmp 2) (.tmp 5) rfl (w.heap.size + 1) 0 (vbs D).toArray rfl rfl (there_z HT3.out HDl.out) (i25v HDl.out) (all_oneCell_toArray (vbs_one _)) ?_))
  have hS := HT3.out.setCells (vbs D) (by rw [vbs_len, vbs_len, HDl.out]; rfl)
  have hbb := below_setCells (B := w.heap.size) (b := w.heap.size + 1) (by omega) (vbs D) 0 w3 (HB.out.trans ((HB2.out.mono HB.out.size).trans (HB3.out.mono (Nat.le_trans HB.out.size HB2.out.size))))
  generalize w3.setCells (w.heap.size + 1) 0 (vbs D) = W9 at hS hbb
  exact bodyPost_ret (v := .agg (vbs D).toArray) (results_cell_row Tryd.results9 _ W9 (w.heap.size + 1) 24 (vbs D).toArray (0, 0) _ rfl hS Tryd.underlying24 rfl (i25v HDl.out)) rfl ⟨rfl, hbb⟩
set_option maxHeartbeats 4000000 in
theorem rid_any (h : THd) (k : HdOk h) (w : World) (hG : Glob w) : Calls Tryd.prog 10 #[.agg (hdV h).toArray] w fun e w' => e = .returned (.agg (vbs (twiceB (hdB h))).toArray) ∧ Below w.heap.size w w' := by
  have hz := zero24
  have es : (w.alloc (.cells (hdV h).toArray 26)).heap.size = w.heap.size + 1 := by simp
  have hT0 := Blk.new (w.alloc (.cells (hdV h).toArray 26)) 24 (vbs Z32).toArray
  rw [es, List.toList_toArray] at hT0
  have hH0 : HdAt ((w.alloc (.cells (hdV h).toArray 26)).alloc (.cells (vbs Z32).toArray 24)) w.heap.size h := ⟨((Blk.new w 26 (hdV h).toArray).alloc _).range, by simp; omega⟩
  have hB0 : Below w.heap.size w ((w.alloc (.cells (hdV h).toArray 26)).alloc (.cells (vbs Z32).toArray 24)) := ((Below.refl _ _).alloc (Nat.le_refl _) _).alloc (by simp) _
  obtain ⟨D, hD⟩ : ∃ D, D = twiceB (hdB h) := ⟨_, rfl⟩
  have HDl := Lib.hid (show D.length = 32 by rw [hD]; exact sumB_len _)
  have K := Lib.hid (fun wq => rput_any h k wq)
  have KT : Hid (∀ (A : Option Addr) (c : Nat) (wq : World), Glob wq → Rd wq wq.heap.size A (hdB h) → 80 ≤ c → (A = none → c = 0) → Calls Tryd.prog 20 #[.slice A 80 c] wq fun e w' => e = .returned (.agg (vbs D).toArray) ∧ Below wq.heap.size wq w') := fun A c wq g1 g2 g3 g4 => by
    have := rtwice_any A c (hdB h) wq g2 (by rw [hdB_len k]; exact g3) g4 (by rw [hdB_len k]; omega)
    rw [hdB_len k, ← hD] at this
    exact this
  have HI := Lib.hid (info26 k)
  have HL80 := Lib.hid (hdB_len k)
  have HG := Lib.hid hG
  have HT := Lib.hid hT0
  have HH := Lib.hid hH0
  have HB := Lib.hid hB0
  rw [← hD]
  obtain ⟨V, hV⟩ : ∃ V, V = (hdV h).toArray := ⟨_, rfl⟩
  rw [← hV] at HT HH HB ⊢
  have HV := Lib.hid hV
  have es' : Hid ((w.alloc (.cells V 26)).heap.size = w.heap.size + 1) := show (w.alloc (.cells V 26)).heap.size = w.heap.size + 1 by simp
  clear hT0 hH0 hB0 hG k hD hV es
  go_enter Tryd.func10, Tryd.ntmps10
  go_upto_region 1 with fail
  generalize hW1 : (w.alloc (.cells V 26)).alloc (.cells (vbs Z32).toArray 24) = W1 at HT HH HB ⊢
  clear hW1 hz
  go_wp2_with (first
    | (with_reducible refine wpList_load_mid rfl 26 (.tmp 1) rfl w.heap.size 0 rfl (hdV h) _ HH.out.range Tryd.underlying26 rfl HI.out ?_)
    | (go_at_call 8; (with_reducible refine (K.out _).mono ?_); rintro e w2 ⟨v2, rfl, ho2, hb2⟩; obtain ⟨A2, c2, rfl, hr2, hc2, hn2⟩ := ho2.slice HL80.out; have HR2 := Lib.hid hr2; have HC2 := Lib.hid hc2; have HN2 := Lib.hid hn2; have HB2 := Lib.hid hb2; clear ho2 hr2 hc2 hn2 hb2; dsimp only)
    | (go_at_call 20; (with_reducible refine (KT.out _ _ _ (HG.out.below (HB.out.trans (HB2.out.mono HB.out.size))) HR2.out HC2.out HN2.out).mono ?_); rintro e w3 ⟨rfl, hb3⟩; have HB3 := Lib.hid hb3; have HT3 := Lib.hid ((HT.out.below HB2.out HT.out.lt).below hb3 (HT.out.below HB2.out HT.out.lt).lt); clear hb3; dsimp only)
    | (with_reducible refine wpList_store_mid rfl 24 (.tmp 2) (.tmp 5) rfl (w.heap.size + 1) 0 (vbs D).toArray rfl rfl (there_z HT3.out HDl.out) (i25v HDl.out) (all_oneCell_toArray (vbs_one _)) ?_))
  have hS := HT3.out.setCells (vbs D) (by rw [vbs_len, vbs_len, HDl.out]; rfl)
  have hbb := below_setCells (B := w.heap.size) (b := w.heap.size + 1) (by omega) (vbs D) 0 w3 (HB.out.trans ((HB2.out.mono HB.out.size).trans (HB3.out.mono (Nat.le_trans HB.out.size HB2.out.size))))
  generalize w3.setCells (w.heap.size + 1) 0 (vbs D) = W9 at hS hbb
  exact bodyPost_ret (v := .agg (vbs D).toArray) (results_cell_row Tryd.results10 _ W9 (w.heap.size + 1) 24 (vbs D).toArray (0, 0) _ rfl hS Tryd.underlying24 rfl (i25v HDl.out)) rfl ⟨rfl, hbb⟩
end Go.Proofs.YtefiacnpbkancaaDoor
