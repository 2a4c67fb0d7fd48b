/- What the closures that write an input, an output, a witness return, and what they make of the captured variable. -/
import Derived.Test.YtnkkhmgplpkjbaaDoorLg
import Derived.Outline
namespace Go.Proofs.YtnkkhmgplpkjbaaDoor
open Go.RowKit
set_option linter.unusedVariables false
set_option linter.unusedSimpArgs false
set_option maxRecDepth 100000
/-- Behind a closure that appends to the variable: nought is told, and it holds M. -/
def WrPost (w0 : World) (B cb : Nat) (M : List (BitVec 8)) (e : Ending) (w' : World) : Prop := e = .returned (.int .i64 0) ∧ ∃ v, CapV w0 B cb v w' M
theorem nmb_w (k n : Nat) (w : World) (hk : isW k = true) (hn : n < 2 ^ (8 * k)) (hn64 : n < 18446744073709551616) :
    Calls Tryd.prog 67 #[.int .i64 (k : Int), .int .u64 (n : Int)] w fun e w' => ∃ A c, e = .returned (.slice A k c) ∧ Src22 w' A k (vbs (les n k)) ∧ (A = none → c = 0) ∧ Below w.heap.size w w' :=
  (number_any k n w hk hn hn64).mono fun e w' ⟨v, he, ho, hb⟩ => by
    obtain ⟨A, c, rfl, hr, hc⟩ := slice_form ho
    have hs := src_of_rd hr
    rw [les_len] at hs he
    exact ⟨A, c, he, hs, hc, hb⟩
theorem num4_w (n : Nat) (w : World) (hn : n < 4294967296) :
    Calls Tryd.prog 67 #[.int .i64 4, .int .u64 (n : Int)] w fun e w' => ∃ A c, e = .returned (.slice A 4 c) ∧ Src22 w' A 4 (vbs (les n 4)) ∧ (A = none → c = 0) ∧ Below w.heap.size w w' := nmb_w 4 n w rfl (by simpa using hn) (by omega)
theorem num8_w (n : Nat) (w : World) (hn : n < 18446744073709551616) :
    Calls Tryd.prog 67 #[.int .i64 8, .int .u64 (n : Int)] w fun e w' => ∃ A c, e = .returned (.slice A 8 c) ∧ Src22 w' A 8 (vbs (les n 8)) ∧ (A = none → c = 0) ∧ Below w.heap.size w w' := nmb_w 8 n w rfl (by simpa using hn) hn
theorem text_w (T : List (BitVec 8)) (A2 : Option Addr) (n cap2 m : Nat) (w : World) (hn : T.length = n) (hm : (txt T).length = m) (hR2 : Rd w w.heap.size A2 T) (hc2 : A2 = none → cap2 = 0) (hl2 : T.length ≤ 100000) :
    Calls Tryd.prog 71 #[.slice none 0 0, .slice A2 n cap2] w fun e w' => ∃ A c, e = .returned (.slice A m c) ∧ Src22 w' A m (vbs (txt T)) ∧ (A = none → c = 0) ∧ Below w.heap.size w w' := by
  subst hn
  have h := putText_any none A2 [] T 0 cap2 w.heap.size w (fun h => by simp at h) hR2 (Nat.le_refl _) hc2 (by simp) (by omega)
  rw [List.nil_append] at h
  refine h.mono fun e w' ⟨v, he, ho, hb⟩ => ?_
  obtain ⟨A, c, rfl, hr, hc⟩ := slice_form ho
  have hs := src_of_rd hr
  have e2 : (form T.length ++ T).length = m := hm
  rw [e2] at hs he
  exact ⟨A, c, he, hs, hc, hb⟩
theorem count_w (n m : Nat) (w : World) (hn : n < 9223372036854775808) (hm : (form n).length = m) :
    Calls Tryd.prog 68 #[.int .i64 (n : Int)] w fun e w' => ∃ A c, e = .returned (.slice A m c) ∧ Src22 w' A m (vbs (form n)) ∧ (A = none → c = 0) ∧ Below w.heap.size w w' :=
  (count_any n w hn).mono fun e w' ⟨v, he, ho, hb⟩ => by
    obtain ⟨A, c, rfl, hr, hc⟩ := slice_form ho
    have hs := src_of_rd hr
    rw [hm] at hs he
    exact ⟨A, c, he, hs, hc, hb⟩
theorem txt_len (T : List (BitVec 8)) : (txt T).length ≤ T.length + 9 := by
  have := wid_le T.length
  simp only [txt, List.length_append, form_len]
  omega
set_option maxHeartbeats 8000000 in
theorem wIn_any (x : TIn) (s u : Value) (g o B cb : Nat) (v : Value) (w0 w : World) (L : List (BitVec 8)) (hg : g < B) (hr : w0.rangeAt g o (inV x s u)) (hok : InOk w0 B x s u) (hC : CapV w0 B cb v w L) (hl : L.length ≤ 1000000) (hsc : x.sc.length ≤ 100000) :
    Calls Tryd.prog 70 #[.pointer (some ⟨g, o, none⟩), .pointer (some ⟨cb, 0, none⟩)] w (WrPost w0 B cb (L ++ inB x)) := by
  obtain ⟨hs, hu, h32, hix, hsq⟩ := hok
  obtain ⟨e32, e33, e34, e35⟩ := inV_at (x := x) (s := s) (v := u) h32
  have hsl := hs
  obtain ⟨A1, c1, rfl, hrd, _, _, hcn⟩ := hs
  have htx : Rd w0 B (some ⟨g, o, none⟩) x.tx := fun _ => ⟨g, o, rfl, hg, fun j hj => hr j _ (inV_tx hj)⟩
  have c32 := hr 32 _ e32
  have c33 := hr 33 _ e33
  have c34 := hr 34 _ e34
  have HX : Hid (∀ wq, Below B w0 wq → Src22 wq (some ⟨g, o, none⟩) 32 (vbs x.tx) ∧ wq.cell? ⟨g, o + 32, none⟩ = some (.int .u32 (x.ix : Int)) ∧ wq.cell? ⟨g, o + 33, none⟩ = some (.slice A1 x.sc.length c1) ∧ wq.cell? ⟨g, o + 34, none⟩ = some (.int .u32 (x.sq : Int)) ∧ Rd wq B A1 x.sc) := fun wq hq =>
    ⟨by have := src_of_rd (htx.keep hq); rwa [h32] at this, by rw [hq.cell (p := ⟨g, o + 32, none⟩) hg]; exact c32, by rw [hq.cell (p := ⟨g, o + 33, none⟩) hg]; exact c33, by rw [hq.cell (p := ⟨g, o + 34, none⟩) hg]; exact c34, hrd.keep hq⟩
  have hwix : IntKind.u64.wrap (x.ix : Int) = (x.ix : Int) := by rw [IntKind.wrap_u64]; omega
  have hwsq : IntKind.u64.wrap (x.sq : Int) = (x.sq : Int) := by rw [IntKind.wrap_u64]; omega
  have K1 := Lib.hid (fun wq => num4_w x.ix wq hix)
  have K3 := Lib.hid (fun wq => num4_w x.sq wq hsq)
  obtain ⟨m2, hm2⟩ : ∃ m, m = (txt x.sc).length := ⟨_, rfl⟩
  have hm2l : m2 ≤ 100009 := by have := txt_len x.sc; omega
  obtain ⟨n1, hn1⟩ : ∃ n, n = x.sc.length := ⟨_, rfl⟩
  have K2 : Hid (∀ wq, Below B w0 wq → B ≤ wq.heap.size → Calls Tryd.prog 71 #[.slice none 0 0, .slice A1 n1 c1] wq fun e w' => ∃ A c, e = .returned (.slice A m2 c) ∧ Src22 w' A m2 (vbs (txt x.sc)) ∧ (A = none → c = 0) ∧ Below wq.heap.size wq w') := fun wq hq hB =>
    text_w x.sc A1 n1 c1 m2 wq hn1.symm hm2.symm ((HX.out wq hq).2.2.2.2.up hB) hcn hsc
  rw [← hn1] at HX
  have h55 := slice55all g o
  have Hm2 := Lib.hid hm2
  have Hl32 := Lib.hid h32
  clear hr hu e32 e33 e34 e35 hsl hrd htx c32 c33 c34 hcn hsc hn1 hm2 h32
  obtain ⟨L0, hL0⟩ : ∃ M, M = L ++ inB x := ⟨_, rfl⟩
  rw [← hL0]
  have HL0 := Lib.hid hL0
  clear hL0
  go_enter Tryd.func70, Tryd.ntmps70
  go_upto_region 1 with fail
  generalize hWd : w.drew = Wd
  have hCd : CapV w0 B cb v Wd L := by rw [← hWd]; exact hC.drew
  have EC : Hid (∀ wq, SB Wd wq → wq.cell? ⟨cb, 0, none⟩ = some v) := fun wq hq => hq.cell (hCd.blk.cell rfl)
  have HCd := Lib.hid hCd
  clear hCd hC
  refine wp_region_to (z := 6) (SB Wd) (by kernel_rfl) ?_
  rw [hWd]
  have hS : SB Wd Wd := SB.refl Wd
  clear hWd
  refine AnyTo.take (i := 0) (v := v) rfl (by kernel_rfl) (by kernel_rfl) (by kernel_rfl) (by kernel_rfl) (by kernel_rfl) (fun _ _ _ h => h) (Or.inl ⟨by rfl, ?_⟩) hS ?_
  · intro wq hq
    have dq0 := EC.out wq hq
    go_simp
  try simp only [Act.put, List.setIfInBounds_toArray, List.set_cons_zero, List.set_cons_succ, List.getElem_toArray, List.getElem_cons_zero, List.getElem_cons_succ]
  refine AnyTo.take (i := 1) (v := ?_) rfl (by kernel_rfl) (by kernel_rfl) (by kernel_rfl) (by kernel_rfl) (by kernel_rfl) (fun _ _ _ h => h) (Or.inl ⟨by rfl, ?_⟩) hS ?_
  rotate_left
  · (intro wq hq; go_simp; try with_reducible rfl)
  try simp only [Act.put, List.setIfInBounds_toArray, List.set_cons_zero, List.set_cons_succ, List.getElem_toArray, List.getElem_cons_zero, List.getElem_cons_succ]
  refine AnyTo.take (i := 2) (v := ?_) rfl (by kernel_rfl) (by kernel_rfl) (by kernel_rfl) (by kernel_rfl) (by kernel_rfl) (fun _ _ _ h => h) (Or.inl ⟨by rfl, ?_⟩) hS ?_
  rotate_left
  · (intro wq hq; go_simp; try with_reducible rfl)
  try simp only [Act.put, List.setIfInBounds_toArray, List.set_cons_zero, List.set_cons_succ, List.getElem_toArray, List.getElem_cons_zero, List.getElem_cons_succ]
  refine AnyTo.take (i := 3) (v := ?_) rfl (by kernel_rfl) (by kernel_rfl) (by kernel_rfl) (by kernel_rfl) (by kernel_rfl) (fun _ _ _ h => h) (Or.inl ⟨by rfl, ?_⟩) hS ?_
  rotate_left
  · (intro wq hq; go_simp; try with_reducible rfl)
  try simp only [Act.put, List.setIfInBounds_toArray, List.set_cons_zero, List.set_cons_succ, List.getElem_toArray, List.getElem_cons_zero, List.getElem_cons_succ]
  refine AnyTo.take (i := 4) (v := ?_) rfl (by kernel_rfl) (by kernel_rfl) (by kernel_rfl) (by kernel_rfl) (by kernel_rfl) (fun _ _ _ h => h) (Or.inl ⟨by rfl, ?_⟩) hS ?_
  rotate_left
  · (intro wq hq; go_simp; try with_reducible rfl)
  try simp only [Act.put, List.setIfInBounds_toArray, List.set_cons_zero, List.set_cons_succ, List.getElem_toArray, List.getElem_cons_zero, List.getElem_cons_succ]
  refine AnyTo.take (i := 5) (v := .slice (some ⟨g, o, none⟩) 32 32) rfl (by kernel_rfl) (by kernel_rfl) (by kernel_rfl) (by kernel_rfl) (by kernel_rfl) (fun _ _ _ h => h) (Or.inl ⟨by rfl, ?_⟩) hS ?_
  · intro wq hq
    go_simp
  try simp only [Act.put, List.setIfInBounds_toArray, List.set_cons_zero, List.set_cons_succ, List.getElem_toArray, List.getElem_cons_zero, List.getElem_cons_succ]
  have HCa := HCd.out
  refine AnyTo.gone (i := 6) (by kernel_rfl) rfl (by rfl) (fun K hK => ?_)
  refine wp_app (.tmp 4) (.tmp 9) rfl rfl B v L.length (vbs L) rfl HCa.ob (some ⟨g, o, none⟩) 32 32 (vbs x.tx) rfl (HX.out Wd HCa.bel).1 (fun h => by cases h) (by omega) HCa.hB ?_
  intro vp wa h1 h2
  obtain ⟨ca, fa, hC, Axp, lxp, cxp, rfl⟩ := CapV.app HCa h1 h2
  refine hK _ _ (fun h => absurd h (by decide)) ?_
  clear hK K
  try simp only [Act.put, List.setIfInBounds_toArray, List.set_cons_zero, List.set_cons_succ, List.getElem_toArray, List.getElem_cons_zero, List.getElem_cons_succ]
  refine AnyTo.gone (i := 7) (by kernel_rfl) rfl (by rfl) (fun K hK => ?_)
  go_simp
  refine hK _ _ (fun h => absurd h (by decide)) ?_
  clear hK K
  try simp only [Act.put, List.setIfInBounds_toArray, List.set_cons_zero, List.set_cons_succ, List.getElem_toArray, List.getElem_cons_zero, List.getElem_cons_succ]
  refine AnyTo.done (by kernel_rfl) ?_ _
  try dsimp only [Exit.then]
  generalize wa.setCell ⟨cb, 0, none⟩ (.slice Axp lxp cxp) = wp at hC ⊢
  clear ca fa h1 h2 HCa HCd EC
  obtain ⟨L1, hL1⟩ : ∃ M, M = L ++ x.tx := ⟨_, rfl⟩
  have hl1 : L1.length ≤ 1000032 := by rw [hL1, List.length_append, Hl32.out]; omega
  rw [← hL1] at hC
  have HL1 := Lib.hid hL1
  clear hL1 h55
  go_upto_region 2 with fail
  generalize hWd : wp.drew = Wd
  have hCd : CapV w0 B cb (.slice Axp lxp cxp) Wd L1 := by rw [← hWd]; exact hC.drew
  have EC : Hid (∀ wq, SB Wd wq → wq.cell? ⟨cb, 0, none⟩ = some (.slice Axp lxp cxp)) := fun wq hq => hq.cell (hCd.blk.cell rfl)
  have EX : Hid (∀ wq, SB Wd wq → wq.cell? ⟨g, o + 32, none⟩ = some (.int .u32 (x.ix : Int))) := fun wq hq => hq.cell (HX.out Wd hCd.bel).2.1
  have HCd := Lib.hid hCd
  clear hCd hC
  refine wp_region_to (z := 8) (SB Wd) (by kernel_rfl) ?_
  rw [hWd]
  have hS : SB Wd Wd := SB.refl Wd
  clear hWd
  refine AnyTo.take (i := 0) (v := (.slice Axp lxp cxp)) rfl (by kernel_rfl) (by kernel_rfl) (by kernel_rfl) (by kernel_rfl) (by kernel_rfl) (fun _ _ _ h => h) (Or.inl ⟨by rfl, ?_⟩) hS ?_
  · intro wq hq
    have dq0 := EC.out wq hq
    go_simp
  try simp only [Act.put, List.setIfInBounds_toArray, List.set_cons_zero, List.set_cons_succ, List.getElem_toArray, List.getElem_cons_zero, List.getElem_cons_succ]
  refine AnyTo.take (i := 1) (v := ?_) rfl (by kernel_rfl) (by kernel_rfl) (by kernel_rfl) (by kernel_rfl) (by kernel_rfl) (fun _ _ _ h => h) (Or.inl ⟨by rfl, ?_⟩) hS ?_
  rotate_left
  · (intro wq hq; go_simp; try with_reducible rfl)
  try simp only [Act.put, List.setIfInBounds_toArray, List.set_cons_zero, List.set_cons_succ, List.getElem_toArray, List.getElem_cons_zero, List.getElem_cons_succ]
  refine AnyTo.take (i := 2) (v := ?_) rfl (by kernel_rfl) (by kernel_rfl) (by kernel_rfl) (by kernel_rfl) (by kernel_rfl) (fun _ _ _ h => h) (Or.inl ⟨by rfl, ?_⟩) hS ?_
  rotate_left
  · (intro wq hq; go_simp; try with_reducible rfl)
  try simp only [Act.put, List.setIfInBounds_toArray, List.set_cons_zero, List.set_cons_succ, List.getElem_toArray, List.getElem_cons_zero, List.getElem_cons_succ]
  refine AnyTo.take (i := 3) (v := ?_) rfl (by kernel_rfl) (by kernel_rfl) (by kernel_rfl) (by kernel_rfl) (by kernel_rfl) (fun _ _ _ h => h) (Or.inl ⟨by rfl, ?_⟩) hS ?_
  rotate_left
  · (intro wq hq; go_simp; try with_reducible rfl)
  try simp only [Act.put, List.setIfInBounds_toArray, List.set_cons_zero, List.set_cons_succ, List.getElem_toArray, List.getElem_cons_zero, List.getElem_cons_succ]
  refine AnyTo.take (i := 4) (v := ?_) rfl (by kernel_rfl) (by kernel_rfl) (by kernel_rfl) (by kernel_rfl) (by kernel_rfl) (fun _ _ _ h => h) (Or.inl ⟨by rfl, ?_⟩) hS ?_
  rotate_left
  · (intro wq hq; go_simp; try with_reducible rfl)
  try simp only [Act.put, List.setIfInBounds_toArray, List.set_cons_zero, List.set_cons_succ, List.getElem_toArray, List.getElem_cons_zero, List.getElem_cons_succ]
  refine AnyTo.take (i := 5) (v := .int .u32 (x.ix : Int)) rfl (by kernel_rfl) (by kernel_rfl) (by kernel_rfl) (by kernel_rfl) (by kernel_rfl) (fun _ _ _ h => h) (Or.inl ⟨by rfl, ?_⟩) hS ?_
  · intro wq hq
    have dq0 := EX.out wq hq
    go_simp
  try simp only [Act.put, List.setIfInBounds_toArray, List.set_cons_zero, List.set_cons_succ, List.getElem_toArray, List.getElem_cons_zero, List.getElem_cons_succ]
  refine AnyTo.take (i := 6) (v := ?_) rfl (by kernel_rfl) (by kernel_rfl) (by kernel_rfl) (by kernel_rfl) (by kernel_rfl) (fun _ _ _ h => h) (Or.inl ⟨by rfl, ?_⟩) hS ?_
  rotate_left
  · (intro wq hq; go_simp; try with_reducible rfl)
  try simp only [Act.put, List.setIfInBounds_toArray, List.set_cons_zero, List.set_cons_succ, List.getElem_toArray, List.getElem_cons_zero, List.getElem_cons_succ]
  have HCa := HCd.out
  refine AnyTo.gone (i := 7) (by kernel_rfl) rfl (by rfl) (fun K hK => ?_)
  go_simp
  (with_reducible refine (K1.out _).mono ?_)
  rintro e wc ⟨Ac, cc, rfl, hsr, hcc, hbc⟩
  have hS : SB Wd wc := SB.next (SB.refl Wd) hbc
  have HCa := HCa.next hbc
  dsimp only
  refine hK _ _ (fun _ => hS) ?_
  clear hK K
  try simp only [Act.put, List.setIfInBounds_toArray, List.set_cons_zero, List.set_cons_succ, List.getElem_toArray, List.getElem_cons_zero, List.getElem_cons_succ]
  refine AnyTo.gone (i := 8) (by kernel_rfl) rfl (by rfl) (fun K hK => ?_)
  refine wp_app (.tmp 11) (.tmp 18) rfl rfl B (.slice Axp lxp cxp) L1.length (vbs L1) rfl HCa.ob Ac 4 cc (vbs (les x.ix 4)) rfl hsr hcc (by omega) HCa.hB ?_
  intro vq wa h1 h2
  obtain ⟨ca, fa, hC, Axq, lxq, cxq, rfl⟩ := CapV.app HCa h1 h2
  refine hK _ _ (fun h => absurd h (by decide)) ?_
  clear hK K
  try simp only [Act.put, List.setIfInBounds_toArray, List.set_cons_zero, List.set_cons_succ, List.getElem_toArray, List.getElem_cons_zero, List.getElem_cons_succ]
  refine AnyTo.gone (i := 9) (by kernel_rfl) rfl (by rfl) (fun K hK => ?_)
  go_simp
  refine hK _ _ (fun h => absurd h (by decide)) ?_
  clear hK K
  try simp only [Act.put, List.setIfInBounds_toArray, List.set_cons_zero, List.set_cons_succ, List.getElem_toArray, List.getElem_cons_zero, List.getElem_cons_succ]
  refine AnyTo.done (by kernel_rfl) ?_ _
  try dsimp only [Exit.then]
  generalize wa.setCell ⟨cb, 0, none⟩ (.slice Axq lxq cxq) = wq at hC ⊢
  clear ca fa h1 h2 HCa HCd EC
  obtain ⟨L2, hL2⟩ : ∃ M, M = L1 ++ les x.ix 4 := ⟨_, rfl⟩
  have hl2 : L2.length ≤ 1000036 := by rw [hL2, List.length_append, les_len]; omega
  rw [← hL2] at hC
  have HL2 := Lib.hid hL2
  clear hL2 EX hsr hcc hbc hS
  go_upto_region 3 with fail
  generalize hWd : wq.drew = Wd
  have hCd : CapV w0 B cb (.slice Axq lxq cxq) Wd L2 := by rw [← hWd]; exact hC.drew
  have EC : Hid (∀ wq, SB Wd wq → wq.cell? ⟨cb, 0, none⟩ = some (.slice Axq lxq cxq)) := fun wq hq => hq.cell (hCd.blk.cell rfl)
  have EX : Hid (∀ wq, SB Wd wq → wq.cell? ⟨g, o + 33, none⟩ = some (.slice A1 n1 c1)) := fun wq hq => hq.cell (HX.out Wd hCd.bel).2.2.1
  have HCd := Lib.hid hCd
  clear hCd hC
  refine wp_region_to (z := 6) (SB Wd) (by kernel_rfl) ?_
  rw [hWd]
  have hS : SB Wd Wd := SB.refl Wd
  clear hWd
  refine AnyTo.take (i := 0) (v := (.slice Axq lxq cxq)) rfl (by kernel_rfl) (by kernel_rfl) (by kernel_rfl) (by kernel_rfl) (by kernel_rfl) (fun _ _ _ h => h) (Or.inl ⟨by rfl, ?_⟩) hS ?_
  · intro wq hq
    have dq0 := EC.out wq hq
    go_simp
  try simp only [Act.put, List.setIfInBounds_toArray, List.set_cons_zero, List.set_cons_succ, List.getElem_toArray, List.getElem_cons_zero, List.getElem_cons_succ]
  refine AnyTo.take (i := 1) (v := ?_) rfl (by kernel_rfl) (by kernel_rfl) (by kernel_rfl) (by kernel_rfl) (by kernel_rfl) (fun _ _ _ h => h) (Or.inl ⟨by rfl, ?_⟩) hS ?_
  rotate_left
  · (intro wq hq; go_simp; try with_reducible rfl)
  try simp only [Act.put, List.setIfInBounds_toArray, List.set_cons_zero, List.set_cons_succ, List.getElem_toArray, List.getElem_cons_zero, List.getElem_cons_succ]
  refine AnyTo.take (i := 2) (v := ?_) rfl (by kernel_rfl) (by kernel_rfl) (by kernel_rfl) (by kernel_rfl) (by kernel_rfl) (fun _ _ _ h => h) (Or.inl ⟨by rfl, ?_⟩) hS ?_
  rotate_left
  · (intro wq hq; go_simp; try with_reducible rfl)
  try simp only [Act.put, List.setIfInBounds_toArray, List.set_cons_zero, List.set_cons_succ, List.getElem_toArray, List.getElem_cons_zero, List.getElem_cons_succ]
  refine AnyTo.take (i := 3) (v := ?_) rfl (by kernel_rfl) (by kernel_rfl) (by kernel_rfl) (by kernel_rfl) (by kernel_rfl) (fun _ _ _ h => h) (Or.inl ⟨by rfl, ?_⟩) hS ?_
  rotate_left
  · (intro wq hq; go_simp; try with_reducible rfl)
  try simp only [Act.put, List.setIfInBounds_toArray, List.set_cons_zero, List.set_cons_succ, List.getElem_toArray, List.getElem_cons_zero, List.getElem_cons_succ]
  refine AnyTo.take (i := 4) (v := .slice A1 n1 c1) rfl (by kernel_rfl) (by kernel_rfl) (by kernel_rfl) (by kernel_rfl) (by kernel_rfl) (fun _ _ _ h => h) (Or.inl ⟨by rfl, ?_⟩) hS ?_
  · intro wq hq
    have dq0 := EX.out wq hq
    go_simp
  try simp only [Act.put, List.setIfInBounds_toArray, List.set_cons_zero, List.set_cons_succ, List.getElem_toArray, List.getElem_cons_zero, List.getElem_cons_succ]
  have HCa := HCd.out
  refine AnyTo.gone (i := 5) (by kernel_rfl) rfl (by rfl) (fun K hK => ?_)
  go_simp
  (with_reducible refine (K2.out _ HCa.bel HCa.hB).mono ?_)
  rintro e wc ⟨Ac, cc, rfl, hsr, hcc, hbc⟩
  have hS : SB Wd wc := SB.next (SB.refl Wd) hbc
  have HCa := HCa.next hbc
  dsimp only
  refine hK _ _ (fun _ => hS) ?_
  clear hK K
  try simp only [Act.put, List.setIfInBounds_toArray, List.set_cons_zero, List.set_cons_succ, List.getElem_toArray, List.getElem_cons_zero, List.getElem_cons_succ]
  refine AnyTo.gone (i := 6) (by kernel_rfl) rfl (by rfl) (fun K hK => ?_)
  refine wp_app (.tmp 20) (.tmp 25) rfl rfl B (.slice Axq lxq cxq) L2.length (vbs L2) rfl HCa.ob Ac m2 cc (vbs (txt x.sc)) rfl hsr hcc (by omega) HCa.hB ?_
  intro vr wa h1 h2
  obtain ⟨ca, fa, hC, Axr, lxr, cxr, rfl⟩ := CapV.app HCa h1 h2
  refine hK _ _ (fun h => absurd h (by decide)) ?_
  clear hK K
  try simp only [Act.put, List.setIfInBounds_toArray, List.set_cons_zero, List.set_cons_succ, List.getElem_toArray, List.getElem_cons_zero, List.getElem_cons_succ]
  refine AnyTo.gone (i := 7) (by kernel_rfl) rfl (by rfl) (fun K hK => ?_)
  go_simp
  refine hK _ _ (fun h => absurd h (by decide)) ?_
  clear hK K
  try simp only [Act.put, List.setIfInBounds_toArray, List.set_cons_zero, List.set_cons_succ, List.getElem_toArray, List.getElem_cons_zero, List.getElem_cons_succ]
  refine AnyTo.done (by kernel_rfl) ?_ _
  try dsimp only [Exit.then]
  generalize wa.setCell ⟨cb, 0, none⟩ (.slice Axr lxr cxr) = wr at hC ⊢
  clear ca fa h1 h2 HCa HCd EC
  obtain ⟨L3, hL3⟩ : ∃ M, M = L2 ++ txt x.sc := ⟨_, rfl⟩
  have hl3 : L3.length ≤ 1200036 := by rw [hL3, List.length_append, ← Hm2.out]; omega
  rw [← hL3] at hC
  have HL3 := Lib.hid hL3
  clear hL3 EX hsr hcc hbc hS
  go_upto_region 4 with fail
  generalize hWd : wr.drew = Wd
  have hCd : CapV w0 B cb (.slice Axr lxr cxr) Wd L3 := by rw [← hWd]; exact hC.drew
  have EC : Hid (∀ wq, SB Wd wq → wq.cell? ⟨cb, 0, none⟩ = some (.slice Axr lxr cxr)) := fun wq hq => hq.cell (hCd.blk.cell rfl)
  have EX : Hid (∀ wq, SB Wd wq → wq.cell? ⟨g, o + 34, none⟩ = some (.int .u32 (x.sq : Int))) := fun wq hq => hq.cell (HX.out Wd hCd.bel).2.2.2.1
  have HCd := Lib.hid hCd
  clear hCd hC
  refine wp_region_to (z := 7) (SB Wd) (by kernel_rfl) ?_
  rw [hWd]
  have hS : SB Wd Wd := SB.refl Wd
  clear hWd
  refine AnyTo.take (i := 0) (v := (.slice Axr lxr cxr)) rfl (by kernel_rfl) (by kernel_rfl) (by kernel_rfl) (by kernel_rfl) (by kernel_rfl) (fun _ _ _ h => h) (Or.inl ⟨by rfl, ?_⟩) hS ?_
  · intro wq hq
    have dq0 := EC.out wq hq
    go_simp
  try simp only [Act.put, List.setIfInBounds_toArray, List.set_cons_zero, List.set_cons_succ, List.getElem_toArray, List.getElem_cons_zero, List.getElem_cons_succ]
  refine AnyTo.take (i := 1) (v := ?_) rfl (by kernel_rfl) (by kernel_rfl) (by kernel_rfl) (by kernel_rfl) (by kernel_rfl) (fun _ _ _ h => h) (Or.inl ⟨by rfl, ?_⟩) hS ?_
  rotate_left
  · (intro wq hq; go_simp; try with_reducible rfl)
  try simp only [Act.put, List.setIfInBounds_toArray, List.set_cons_zero, List.set_cons_succ, List.getElem_toArray, List.getElem_cons_zero, List.getElem_cons_succ]
  refine AnyTo.take (i := 2) (v := ?_) rfl (by kernel_rfl) (by kernel_rfl) (by kernel_rfl) (by kernel_rfl) (by kernel_rfl) (fun _ _ _ h => h) (Or.inl ⟨by rfl, ?_⟩) hS ?_
  rotate_left
  · (intro wq hq; go_simp; try with_reducible rfl)
  try simp only [Act.put, List.setIfInBounds_toArray, List.set_cons_zero, List.set_cons_succ, List.getElem_toArray, List.getElem_cons_zero, List.getElem_cons_succ]
  refine AnyTo.take (i := 3) (v := ?_) rfl (by kernel_rfl) (by kernel_rfl) (by kernel_rfl) (by kernel_rfl) (by kernel_rfl) (fun _ _ _ h => h) (Or.inl ⟨by rfl, ?_⟩) hS ?_
  rotate_left
  · (intro wq hq; go_simp; try with_reducible rfl)
  try simp only [Act.put, List.setIfInBounds_toArray, List.set_cons_zero, List.set_cons_succ, List.getElem_toArray, List.getElem_cons_zero, List.getElem_cons_succ]
  refine AnyTo.take (i := 4) (v := .int .u32 (x.sq : Int)) rfl (by kernel_rfl) (by kernel_rfl) (by kernel_rfl) (by kernel_rfl) (by kernel_rfl) (fun _ _ _ h => h) (Or.inl ⟨by rfl, ?_⟩) hS ?_
  · intro wq hq
    have dq0 := EX.out wq hq
    go_simp
  try simp only [Act.put, List.setIfInBounds_toArray, List.set_cons_zero, List.set_cons_succ, List.getElem_toArray, List.getElem_cons_zero, List.getElem_cons_succ]
  refine AnyTo.take (i := 5) (v := ?_) rfl (by kernel_rfl) (by kernel_rfl) (by kernel_rfl) (by kernel_rfl) (by kernel_rfl) (fun _ _ _ h => h) (Or.inl ⟨by rfl, ?_⟩) hS ?_
  rotate_left
  · (intro wq hq; go_simp; try with_reducible rfl)
  try simp only [Act.put, List.setIfInBounds_toArray, List.set_cons_zero, List.set_cons_succ, List.getElem_toArray, List.getElem_cons_zero, List.getElem_cons_succ]
  have HCa := HCd.out
  refine AnyTo.gone (i := 6) (by kernel_rfl) rfl (by rfl) (fun K hK => ?_)
  go_simp
  (with_reducible refine (K3.out _).mono ?_)
  rintro e wc ⟨Ac, cc, rfl, hsr, hcc, hbc⟩
  have hS : SB Wd wc := SB.next (SB.refl Wd) hbc
  have HCa := HCa.next hbc
  dsimp only
  refine hK _ _ (fun _ => hS) ?_
  clear hK K
  try simp only [Act.put, List.setIfInBounds_toArray, List.set_cons_zero, List.set_cons_succ, List.getElem_toArray, List.getElem_cons_zero, List.getElem_cons_succ]
  refine AnyTo.gone (i := 7) (by kernel_rfl) rfl (by rfl) (fun K hK => ?_)
  refine wp_app (.tmp 27) (.tmp 33) rfl rfl B (.slice Axr lxr cxr) L3.length (vbs L3) rfl HCa.ob Ac 4 cc (vbs (les x.sq 4)) rfl hsr hcc (by omega) HCa.hB ?_
  intro vt wa h1 h2
  obtain ⟨ca, fa, hC, Axt, lxt, cxt, rfl⟩ := CapV.app HCa h1 h2
  refine hK _ _ (fun h => absurd h (by decide)) ?_
  clear hK K
  try simp only [Act.put, List.setIfInBounds_toArray, List.set_cons_zero, List.set_cons_succ, List.getElem_toArray, List.getElem_cons_zero, List.getElem_cons_succ]
  refine AnyTo.gone (i := 8) (by kernel_rfl) rfl (by rfl) (fun K hK => ?_)
  go_simp
  refine hK _ _ (fun h => absurd h (by decide)) ?_
  clear hK K
  try simp only [Act.put, List.setIfInBounds_toArray, List.set_cons_zero, List.set_cons_succ, List.getElem_toArray, List.getElem_cons_zero, List.getElem_cons_succ]
  refine AnyTo.done (by kernel_rfl) ?_ _
  try dsimp only [Exit.then]
  generalize wa.setCell ⟨cb, 0, none⟩ (.slice Axt lxt cxt) = wt at hC ⊢
  clear ca fa h1 h2 HCa HCd EC
  have HC := Lib.hid hC
  clear hC EX hsr hcc hbc hS
  go_wp2_with fail
  go_ret
  exact ⟨rfl, _, by rw [HL0.out, show L ++ inB x = L3 ++ les x.sq 4 by rw [HL3.out, HL2.out, HL1.out]; simp only [inB, List.append_assoc]]; exact HC.out⟩
end Go.Proofs.YtnkkhmgplpkjbaaDoor
