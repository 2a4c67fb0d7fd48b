/- What the closure that writes an output, and the loop over inputs or outputs, return. -/
import Derived.Test.YtnkkhmgplpkjbaaDoorLh
import Derived.Outline
namespace Go.Proofs.YtnkkhmgplpkjbaaDoor
open Go.RowKit
set_option linter.unusedVariables false
set_option linter.unusedSimpArgs false
set_option maxRecDepth 100000
theorem u64_lt (z : Int) : u64 z < 18446744073709551616 := by unfold u64; omega
theorem wrap_u64v (z : Int) : IntKind.u64.wrap z = ((u64 z : Nat) : Int) := by rw [IntKind.wrap_u64]; unfold u64; omega
set_option maxHeartbeats 8000000 in
theorem wOut_any (y : TOut) (s : Value) (g o B cb : Nat) (v : Value) (w0 w : World) (L : List (BitVec 8)) (hg : g < B) (hr : w0.rangeAt g o (outV y s)) (hok : OutOk w0 B y s) (hC : CapV w0 B cb v w L) (hl : L.length ≤ 1000000) (hsc : y.sc.length ≤ 100000) :
    Calls Tryd.prog 73 #[.pointer (some ⟨g, o, none⟩), .pointer (some ⟨cb, 0, none⟩)] w (WrPost w0 B cb (L ++ outB y)) := by
  obtain ⟨hs, hv1, hv2⟩ := hok
  obtain ⟨A1, c1, rfl, hrd, _, _, hcn⟩ := hs
  have c0 := hr 0 _ (rfl : (outV y (.slice A1 y.sc.length c1))[0]? = some (.int .i64 y.vl))
  have c1' := hr 1 _ (rfl : (outV y (.slice A1 y.sc.length c1))[1]? = some (.slice A1 y.sc.length c1))
  have HX : Hid (∀ wq, Below B w0 wq → wq.cell? ⟨g, o, none⟩ = some (.int .i64 y.vl) ∧ wq.cell? ⟨g, o + 1, none⟩ = some (.slice A1 y.sc.length c1) ∧ Rd wq B A1 y.sc) := fun wq hq =>
    ⟨by rw [hq.cell (p := ⟨g, o, none⟩) hg]; exact c0, by rw [hq.cell (p := ⟨g, o + 1, none⟩) hg]; exact c1', hrd.keep hq⟩
  have hwv := wrap_u64v y.vl
  obtain ⟨nv, hnv⟩ : ∃ n, n = u64 y.vl := ⟨_, rfl⟩
  have K1 : Hid (∀ wq, Calls Tryd.prog 67 #[.int .i64 8, .int .u64 (nv : Int)] wq fun e w' => ∃ A c, e = .returned (.slice A 8 c) ∧ Src22 w' A 8 (vbs (les nv 8)) ∧ (A = none → c = 0) ∧ Below wq.heap.size wq w') := fun wq => num8_w nv wq (by rw [hnv]; exact u64_lt _)
  rw [← hnv] at hwv
  obtain ⟨m2, hm2⟩ : ∃ m, m = (txt y.sc).length := ⟨_, rfl⟩
  have hm2l : m2 ≤ 100009 := by have := txt_len y.sc; omega
  obtain ⟨n1, hn1⟩ : ∃ n, n = y.sc.length := ⟨_, rfl⟩
  have K2 : Hid (∀ wq, Below B w0 wq → B ≤ wq.heap.size → Calls Tryd.prog 71 #[.slice none 0 0, .slice A1 n1 c1] wq fun e w' => ∃ A c, e = .returned (.slice A m2 c) ∧ Src22 w' A m2 (vbs (txt y.sc)) ∧ (A = none → c = 0) ∧ Below wq.heap.size wq w') := fun wq hq hB =>
    text_w y.sc A1 n1 c1 m2 wq hn1.symm hm2.symm ((HX.out wq hq).2.2.up hB) hcn hsc
  rw [← hn1] at HX
  have Hm2 := Lib.hid hm2
  have Hnv := Lib.hid hnv
  clear hr hrd c0 c1' hcn hsc hn1 hm2 hnv
  obtain ⟨L0, hL0⟩ : ∃ M, M = L ++ outB y := ⟨_, rfl⟩
  rw [← hL0]
  have HL0 := Lib.hid hL0
  clear hL0
  go_enter Tryd.func73, Tryd.ntmps73
  go_upto_region 1 with fail
  generalize hWd : w.drew = Wd
  have hCd : CapV w0 B cb v Wd L := by rw [← hWd]; exact hC.drew
  have EC : Hid (∀ wq, SB Wd wq → wq.cell? ⟨cb, 0, none⟩ = some v) := fun wq hq => hq.cell (hCd.blk.cell rfl)
  have EX : Hid (∀ wq, SB Wd wq → wq.cell? ⟨g, o, none⟩ = some (.int .i64 y.vl)) := fun wq hq => hq.cell (HX.out Wd hCd.bel).1
  have HCd := Lib.hid hCd
  clear hCd hC
  refine wp_region_to (z := 7) (SB Wd) (by kernel_rfl) ?_
  rw [hWd]
  have hS : SB Wd Wd := SB.refl Wd
  clear hWd
  refine AnyTo.take (i := 0) (v := v) rfl (by kernel_rfl) (by kernel_rfl) (by kernel_rfl) (by kernel_rfl) (by kernel_rfl) (fun _ _ _ h => h) (Or.inl ⟨by rfl, ?_⟩) hS ?_
  · intro wq hq
    have dq0 := EC.out wq hq
    go_simp
  try simp only [Act.put, List.setIfInBounds_toArray, List.set_cons_zero, List.set_cons_succ, List.getElem_toArray, List.getElem_cons_zero, List.getElem_cons_succ]
  refine AnyTo.take (i := 1) (v := ?_) rfl (by kernel_rfl) (by kernel_rfl) (by kernel_rfl) (by kernel_rfl) (by kernel_rfl) (fun _ _ _ h => h) (Or.inl ⟨by rfl, ?_⟩) hS ?_
  rotate_left
  · (intro wq hq; go_simp; try with_reducible rfl)
  try simp only [Act.put, List.setIfInBounds_toArray, List.set_cons_zero, List.set_cons_succ, List.getElem_toArray, List.getElem_cons_zero, List.getElem_cons_succ]
  refine AnyTo.take (i := 2) (v := ?_) rfl (by kernel_rfl) (by kernel_rfl) (by kernel_rfl) (by kernel_rfl) (by kernel_rfl) (fun _ _ _ h => h) (Or.inl ⟨by rfl, ?_⟩) hS ?_
  rotate_left
  · (intro wq hq; go_simp; try with_reducible rfl)
  try simp only [Act.put, List.setIfInBounds_toArray, List.set_cons_zero, List.set_cons_succ, List.getElem_toArray, List.getElem_cons_zero, List.getElem_cons_succ]
  refine AnyTo.take (i := 3) (v := ?_) rfl (by kernel_rfl) (by kernel_rfl) (by kernel_rfl) (by kernel_rfl) (by kernel_rfl) (fun _ _ _ h => h) (Or.inl ⟨by rfl, ?_⟩) hS ?_
  rotate_left
  · (intro wq hq; go_simp; try with_reducible rfl)
  try simp only [Act.put, List.setIfInBounds_toArray, List.set_cons_zero, List.set_cons_succ, List.getElem_toArray, List.getElem_cons_zero, List.getElem_cons_succ]
  refine AnyTo.take (i := 4) (v := .int .i64 y.vl) rfl (by kernel_rfl) (by kernel_rfl) (by kernel_rfl) (by kernel_rfl) (by kernel_rfl) (fun _ _ _ h => h) (Or.inl ⟨by rfl, ?_⟩) hS ?_
  · intro wq hq
    have dq0 := EX.out wq hq
    go_simp
  try simp only [Act.put, List.setIfInBounds_toArray, List.set_cons_zero, List.set_cons_succ, List.getElem_toArray, List.getElem_cons_zero, List.getElem_cons_succ]
  refine AnyTo.take (i := 5) (v := .int .u64 (nv : Int)) rfl (by kernel_rfl) (by kernel_rfl) (by kernel_rfl) (by kernel_rfl) (by kernel_rfl) (fun _ _ _ h => h) (Or.inl ⟨by rfl, ?_⟩) hS ?_
  · intro wq hq
    go_simp
  try simp only [Act.put, List.setIfInBounds_toArray, List.set_cons_zero, List.set_cons_succ, List.getElem_toArray, List.getElem_cons_zero, List.getElem_cons_succ]
  have HCa := HCd.out
  refine AnyTo.gone (i := 6) (by kernel_rfl) rfl (by rfl) (fun K hK => ?_)
  go_simp
  (with_reducible refine (K1.out _).mono ?_)
  rintro e wc ⟨Ac, cc, rfl, hsr, hcc, hbc⟩
  have hS : SB Wd wc := SB.next (SB.refl Wd) hbc
  have HCa := HCa.next hbc
  dsimp only
  refine hK _ _ (fun _ => hS) ?_
  clear hK K
  try simp only [Act.put, List.setIfInBounds_toArray, List.set_cons_zero, List.set_cons_succ, List.getElem_toArray, List.getElem_cons_zero, List.getElem_cons_succ]
  refine AnyTo.gone (i := 7) (by kernel_rfl) rfl (by rfl) (fun K hK => ?_)
  refine wp_app (.tmp 4) (.tmp 10) rfl rfl B v L.length (vbs L) rfl HCa.ob Ac 8 cc (vbs (les nv 8)) rfl hsr hcc (by omega) HCa.hB ?_
  intro vp wa h1 h2
  obtain ⟨ca, fa, hC, Axp, lxp, cxp, rfl⟩ := CapV.app HCa h1 h2
  refine hK _ _ (fun h => absurd h (by decide)) ?_
  clear hK K
  try simp only [Act.put, List.setIfInBounds_toArray, List.set_cons_zero, List.set_cons_succ, List.getElem_toArray, List.getElem_cons_zero, List.getElem_cons_succ]
  refine AnyTo.gone (i := 8) (by kernel_rfl) rfl (by rfl) (fun K hK => ?_)
  go_simp
  refine hK _ _ (fun h => absurd h (by decide)) ?_
  clear hK K
  try simp only [Act.put, List.setIfInBounds_toArray, List.set_cons_zero, List.set_cons_succ, List.getElem_toArray, List.getElem_cons_zero, List.getElem_cons_succ]
  refine AnyTo.done (by kernel_rfl) ?_ _
  try dsimp only [Exit.then]
  generalize wa.setCell ⟨cb, 0, none⟩ (.slice Axp lxp cxp) = wp at hC ⊢
  clear ca fa h1 h2 HCa HCd EC
  obtain ⟨L1, hL1⟩ : ∃ M, M = L ++ les nv 8 := ⟨_, rfl⟩
  have hl1 : L1.length ≤ 1000036 := by rw [hL1, List.length_append, les_len]; omega
  rw [← hL1] at hC
  have HL1 := Lib.hid hL1
  clear hL1 EX hsr hcc hbc hS
  go_upto_region 2 with fail
  generalize hWd : wp.drew = Wd
  have hCd : CapV w0 B cb (.slice Axp lxp cxp) Wd L1 := by rw [← hWd]; exact hC.drew
  have EC : Hid (∀ wq, SB Wd wq → wq.cell? ⟨cb, 0, none⟩ = some (.slice Axp lxp cxp)) := fun wq hq => hq.cell (hCd.blk.cell rfl)
  have EX : Hid (∀ wq, SB Wd wq → wq.cell? ⟨g, o + 1, none⟩ = some (.slice A1 n1 c1)) := fun wq hq => hq.cell (HX.out Wd hCd.bel).2.1
  have HCd := Lib.hid hCd
  clear hCd hC
  refine wp_region_to (z := 6) (SB Wd) (by kernel_rfl) ?_
  rw [hWd]
  have hS : SB Wd Wd := SB.refl Wd
  clear hWd
  refine AnyTo.take (i := 0) (v := (.slice Axp lxp cxp)) rfl (by kernel_rfl) (by kernel_rfl) (by kernel_rfl) (by kernel_rfl) (by kernel_rfl) (fun _ _ _ h => h) (Or.inl ⟨by rfl, ?_⟩) hS ?_
  · intro wq hq
    have dq0 := EC.out wq hq
    go_simp
  try simp only [Act.put, List.setIfInBounds_toArray, List.set_cons_zero, List.set_cons_succ, List.getElem_toArray, List.getElem_cons_zero, List.getElem_cons_succ]
  refine AnyTo.take (i := 1) (v := ?_) rfl (by kernel_rfl) (by kernel_rfl) (by kernel_rfl) (by kernel_rfl) (by kernel_rfl) (fun _ _ _ h => h) (Or.inl ⟨by rfl, ?_⟩) hS ?_
  rotate_left
  · (intro wq hq; go_simp; try with_reducible rfl)
  try simp only [Act.put, List.setIfInBounds_toArray, List.set_cons_zero, List.set_cons_succ, List.getElem_toArray, List.getElem_cons_zero, List.getElem_cons_succ]
  refine AnyTo.take (i := 2) (v := ?_) rfl (by kernel_rfl) (by kernel_rfl) (by kernel_rfl) (by kernel_rfl) (by kernel_rfl) (fun _ _ _ h => h) (Or.inl ⟨by rfl, ?_⟩) hS ?_
  rotate_left
  · (intro wq hq; go_simp; try with_reducible rfl)
  try simp only [Act.put, List.setIfInBounds_toArray, List.set_cons_zero, List.set_cons_succ, List.getElem_toArray, List.getElem_cons_zero, List.getElem_cons_succ]
  refine AnyTo.take (i := 3) (v := ?_) rfl (by kernel_rfl) (by kernel_rfl) (by kernel_rfl) (by kernel_rfl) (by kernel_rfl) (fun _ _ _ h => h) (Or.inl ⟨by rfl, ?_⟩) hS ?_
  rotate_left
  · (intro wq hq; go_simp; try with_reducible rfl)
  try simp only [Act.put, List.setIfInBounds_toArray, List.set_cons_zero, List.set_cons_succ, List.getElem_toArray, List.getElem_cons_zero, List.getElem_cons_succ]
  refine AnyTo.take (i := 4) (v := .slice A1 n1 c1) rfl (by kernel_rfl) (by kernel_rfl) (by kernel_rfl) (by kernel_rfl) (by kernel_rfl) (fun _ _ _ h => h) (Or.inl ⟨by rfl, ?_⟩) hS ?_
  · intro wq hq
    have dq0 := EX.out wq hq
    go_simp
  try simp only [Act.put, List.setIfInBounds_toArray, List.set_cons_zero, List.set_cons_succ, List.getElem_toArray, List.getElem_cons_zero, List.getElem_cons_succ]
  have HCa := HCd.out
  refine AnyTo.gone (i := 5) (by kernel_rfl) rfl (by rfl) (fun K hK => ?_)
  go_simp
  (with_reducible refine (K2.out _ HCa.bel HCa.hB).mono ?_)
  rintro e wc ⟨Ac, cc, rfl, hsr, hcc, hbc⟩
  have hS : SB Wd wc := SB.next (SB.refl Wd) hbc
  have HCa := HCa.next hbc
  dsimp only
  refine hK _ _ (fun _ => hS) ?_
  clear hK K
  try simp only [Act.put, List.setIfInBounds_toArray, List.set_cons_zero, List.set_cons_succ, List.getElem_toArray, List.getElem_cons_zero, List.getElem_cons_succ]
  refine AnyTo.gone (i := 6) (by kernel_rfl) rfl (by rfl) (fun K hK => ?_)
  refine wp_app (.tmp 12) (.tmp 17) rfl rfl B (.slice Axp lxp cxp) L1.length (vbs L1) rfl HCa.ob Ac m2 cc (vbs (txt y.sc)) rfl hsr hcc (by omega) HCa.hB ?_
  intro vr wa h1 h2
  obtain ⟨ca, fa, hC, Axr, lxr, cxr, rfl⟩ := CapV.app HCa h1 h2
  refine hK _ _ (fun h => absurd h (by decide)) ?_
  clear hK K
  try simp only [Act.put, List.setIfInBounds_toArray, List.set_cons_zero, List.set_cons_succ, List.getElem_toArray, List.getElem_cons_zero, List.getElem_cons_succ]
  refine AnyTo.gone (i := 7) (by kernel_rfl) rfl (by rfl) (fun K hK => ?_)
  go_simp
  refine hK _ _ (fun h => absurd h (by decide)) ?_
  clear hK K
  try simp only [Act.put, List.setIfInBounds_toArray, List.set_cons_zero, List.set_cons_succ, List.getElem_toArray, List.getElem_cons_zero, List.getElem_cons_succ]
  refine AnyTo.done (by kernel_rfl) ?_ _
  try dsimp only [Exit.then]
  generalize wa.setCell ⟨cb, 0, none⟩ (.slice Axr lxr cxr) = wr at hC ⊢
  clear ca fa h1 h2 HCa HCd EC
  have HC := Lib.hid hC
  clear hC EX hsr hcc hbc hS
  go_wp2_with fail
  go_ret
  exact ⟨rfl, _, by rw [HL0.out, show L ++ outB y = L1 ++ txt y.sc by rw [HL1.out, Hnv.out]; simp only [outB, List.append_assoc]]; exact HC.out⟩
set_option maxHeartbeats 4000000 in
theorem each_in (W : Nat → List (BitVec 8)) (A : Option Addr) (n cap b o B cb : Nat) (w0 w : World) (v : Value) (hA : 0 < n → A = some ⟨b, o, none⟩) (hn : n ≤ 1000000)
    (hK : ∀ i, i < n → ∀ wq u, CapV w0 B cb u wq (W i) → Calls Tryd.prog 70 #[.pointer (some ⟨b, o + i * 36, none⟩), .pointer (some ⟨cb, 0, none⟩)] wq (WrPost w0 B cb (W (i + 1)))) (hC : CapV w0 B cb v w (W 0)) :
    Calls Tryd.prog 69 #[.slice A n cap, .func (.func 70) #[] #[.pointer (some ⟨cb, 0, none⟩)]] w (WrPost w0 B cb (W n)) := by
  have HK := Lib.hid hK
  have HC := Lib.hid hC
  have HA := Lib.hid hA
  clear hK hC hA
  go_enter Tryd.func69, Tryd.ntmps69
  go_wp2_with fail
  go_loopw [9] (fun iv wq => ∃ (i : Nat) (u : Value), i ≤ n ∧ iv = .int .i64 (i : Int) ∧ CapV w0 B cb u wq (W i)) (fun iv _ => n - (intOf iv).toNat)
  case atStart => exact ⟨0, v, Nat.zero_le _, rfl, HC.out⟩
  case round =>
    clear HC
    obtain ⟨i, u, hi, rfl, hC⟩ := hrel
    by_cases hlt : i < n
    · have hlt' : (i : Int) < (n : Int) := by omega
      obtain rfl := HA.out (by omega)
      have K := Lib.hid (HK.out i hlt wr u hC)
      clear hC
      go_wp2_with (go_at_call 70; (with_reducible refine K.out.mono ?_); rintro e w2 ⟨rfl, u2, hC2⟩; dsimp only)
      go_roundw
      case rel => exact ⟨i + 1, u2, by omega, by go_num, hC2⟩
      case measure => simp [intOf]; omega
    · obtain rfl : i = n := by omega
      have hlt' : ¬ (i : Int) < (i : Int) := by omega
      have HC := Lib.hid hC
      clear hC
      go_wp2_with fail
      go_ret
      exact ⟨rfl, u, HC.out⟩
set_option maxHeartbeats 4000000 in
theorem each_wit (W : Nat → List (BitVec 8)) (A : Option Addr) (n cap b o B cb : Nat) (w0 w : World) (v : Value) (hA : 0 < n → A = some ⟨b, o, none⟩) (hn : n ≤ 1000000)
    (hK : ∀ i, i < n → ∀ wq u, CapV w0 B cb u wq (W i) → Calls Tryd.prog 98 #[.pointer (some ⟨b, o + i * 36, none⟩), .pointer (some ⟨cb, 0, none⟩)] wq (WrPost w0 B cb (W (i + 1)))) (hC : CapV w0 B cb v w (W 0)) :
    Calls Tryd.prog 69 #[.slice A n cap, .func (.func 98) #[] #[.pointer (some ⟨cb, 0, none⟩)]] w (WrPost w0 B cb (W n)) := by
  have HK := Lib.hid hK
  have HC := Lib.hid hC
  have HA := Lib.hid hA
  clear hK hC hA
  go_enter Tryd.func69, Tryd.ntmps69
  go_wp2_with fail
  go_loopw [9] (fun iv wq => ∃ (i : Nat) (u : Value), i ≤ n ∧ iv = .int .i64 (i : Int) ∧ CapV w0 B cb u wq (W i)) (fun iv _ => n - (intOf iv).toNat)
  case atStart => exact ⟨0, v, Nat.zero_le _, rfl, HC.out⟩
  case round =>
    clear HC
    obtain ⟨i, u, hi, rfl, hC⟩ := hrel
    by_cases hlt : i < n
    · have hlt' : (i : Int) < (n : Int) := by omega
      obtain rfl := HA.out (by omega)
      have K := Lib.hid (HK.out i hlt wr u hC)
      clear hC
      go_wp2_with (go_at_call 98; (with_reducible refine K.out.mono ?_); rintro e w2 ⟨rfl, u2, hC2⟩; dsimp only)
      go_roundw
      case rel => exact ⟨i + 1, u2, by omega, by go_num, hC2⟩
      case measure => simp [intOf]; omega
    · obtain rfl : i = n := by omega
      have hlt' : ¬ (i : Int) < (i : Int) := by omega
      have HC := Lib.hid hC
      clear hC
      go_wp2_with fail
      go_ret
      exact ⟨rfl, u, HC.out⟩
set_option maxHeartbeats 4000000 in
theorem each_out (W : Nat → List (BitVec 8)) (A : Option Addr) (n cap b o B cb : Nat) (w0 w : World) (v : Value) (hA : 0 < n → A = some ⟨b, o, none⟩) (hn : n ≤ 1000000)
    (hK : ∀ i, i < n → ∀ wq u, CapV w0 B cb u wq (W i) → Calls Tryd.prog 73 #[.pointer (some ⟨b, o + i * 2, none⟩), .pointer (some ⟨cb, 0, none⟩)] wq (WrPost w0 B cb (W (i + 1)))) (hC : CapV w0 B cb v w (W 0)) :
    Calls Tryd.prog 72 #[.slice A n cap, .func (.func 73) #[] #[.pointer (some ⟨cb, 0, none⟩)]] w (WrPost w0 B cb (W n)) := by
  have HK := Lib.hid hK
  have HC := Lib.hid hC
  have HA := Lib.hid hA
  clear hK hC hA
  go_enter Tryd.func72, Tryd.ntmps72
  go_wp2_with fail
  go_loopw [9] (fun iv wq => ∃ (i : Nat) (u : Value), i ≤ n ∧ iv = .int .i64 (i : Int) ∧ CapV w0 B cb u wq (W i)) (fun iv _ => n - (intOf iv).toNat)
  case atStart => exact ⟨0, v, Nat.zero_le _, rfl, HC.out⟩
  case round =>
    clear HC
    obtain ⟨i, u, hi, rfl, hC⟩ := hrel
    by_cases hlt : i < n
    · have hlt' : (i : Int) < (n : Int) := by omega
      obtain rfl := HA.out (by omega)
      have K := Lib.hid (HK.out i hlt wr u hC)
      clear hC
      go_wp2_with (go_at_call 73; (with_reducible refine K.out.mono ?_); rintro e w2 ⟨rfl, u2, hC2⟩; dsimp only)
      go_roundw
      case rel => exact ⟨i + 1, u2, by omega, by go_num, hC2⟩
      case measure => simp [intOf]; omega
    · obtain rfl : i = n := by omega
      have hlt' : ¬ (i : Int) < (i : Int) := by omega
      have HC := Lib.hid hC
      clear hC
      go_wp2_with fail
      go_ret
      exact ⟨rfl, u, HC.out⟩
end Go.Proofs.YtnkkhmgplpkjbaaDoor
