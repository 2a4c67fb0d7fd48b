/- The law package's awake returns true. The law TxOnce returns true for all bytes that can be read. What slices.EqualFunc over lists of byte strings returns. Whether two outpoints are equal. What the rows' proofs ask of the loaded program: closed facts. Whatever transaction came in: it lies in memory as an input's and an output's cells say. -/
import Derived.Test.YtnkkhmgplpkjbaaZoa
import Derived.Test.YtnkkhmgplpkjbaaZob
import Derived.Test.YtnkkhmgplpkjbaaZoc
import Derived.Test.YtnkkhmgplpkjbaaZod
import Derived.Test.YtnkkhmgplpkjbaaZoe
import Derived.Test.YtnkkhmgplpkjbaaZof
import Derived.Outline
import Derived.StillTailTactics
import Derived.Lib.MinMax
import Derived.Stop.BytesEq
import Derived.Laws.StructEq
import Derived.Test.YtnkkhmgplpkjbaaRows
import Derived.ProofKit
import Derived.ChangeOld
import Derived.Deep.Slices
import Derived.ChangeSlices
import Derived.OpenShut
namespace Go.Proofs.Ytnkkhmgplpkjbaa
open Go.RowKit
set_option linter.unusedVariables false
set_option linter.unusedSimpArgs false
set_option maxRecDepth 100000
def XA : List (BitVec 8) := layB (TG []) false
def XB : List (BitVec 8) := layB (TG [[170]]) true
theorem XA_len : XA.length = 61 := by decide +kernel
theorem XB_len : XB.length = 66 := by decide +kernel
theorem ob_shape {w : World} {B n : Nat} {A : Option Addr} {c : Nat} {X : List (BitVec 8)} (h : OB w B (.slice A n c) X) (hp : 0 < X.length) : ∃ g, A = some ⟨g, 0, none⟩ ∧ g < w.heap.size ∧ X.length ≤ c ∧ c ≤ 9223372036854775807 ∧ Rd w w.heap.size (some ⟨g, 0, none⟩) X := by
  obtain ⟨A', cap, e, hr, h1, h2, _⟩ := h.rd
  cases e
  obtain ⟨g, rfl⟩ := h.form hp
  obtain ⟨b, o, e2, hlt, _⟩ := hr hp
  cases e2
  exact ⟨g, rfl, hlt, h1, h2, hr⟩
theorem Rd.part {w : World} {B g : Nat} {X : List (BitVec 8)} (h : Rd w B (some ⟨g, 0, none⟩) X) (a n : Nat) (hn : a + n ≤ X.length) : Rd w B (some ⟨g, a, none⟩) ((X.drop a).take n) := fun hp => by
  rw [List.length_take, List.length_drop] at hp
  obtain ⟨b, o, e, hlt, hc⟩ := h (by omega)
  cases e
  refine ⟨g, a, rfl, hlt, fun j hj => ?_⟩
  rw [List.length_take, List.length_drop] at hj
  have := hc (a + j) (by omega)
  rw [Nat.zero_add] at this
  rw [this]
  simp [List.getD, List.getElem?_take, show j < n by omega, List.getElem?_drop]
theorem ext_part {w : World} {g c : Nat} {X : List (BitVec 8)} (h : Rd w w.heap.size (some ⟨g, 0, none⟩) X) (a n c' : Nat) (hn : a + n ≤ X.length) (s : ByteArray) (hs : strB ((X.drop a).take n) = s) :
    (convert 22 9 (.slice (some ⟨g, a, none⟩) n c')).run Try.prog w = .ok (.string s) w :=
  conv_lit (h.part a n hn) (by rw [List.length_take, List.length_drop]; omega) s hs
def AwPost (w : World) (e : Ending) (w' : World) : Prop := e = .returned (.bool true) ∧ Below w.heap.size w w'
theorem gave_w {X : List (BitVec 8)} {n : Nat} (hn : X.length = n) (hp : 0 < n) {w : World} {e : Ending} {w' : World} (h : GavePost X w e w') :
    ∃ g c, e = .returned (.tuple #[.slice (some ⟨g, 0, none⟩) n c, .int .i64 0]) ∧ Rd w' w'.heap.size (some ⟨g, 0, none⟩) X ∧ n ≤ c ∧ c ≤ 9223372036854775807 ∧ Below w.heap.size w w' := by
  subst hn
  obtain ⟨A, c, rfl, ho, hb⟩ := h
  obtain ⟨g, rfl, _, h1, h2, hr⟩ := ob_shape ho hp
  exact ⟨g, c, rfl, hr, h1, h2, hb⟩
theorem putG (wt : List (List (BitVec 8))) (gi go : Nat) (w : World) (h : TxOk w w.heap.size (TG wt) (.slice (some ⟨gi, 0, none⟩) 1 1) (.slice (some ⟨go, 0, none⟩) 1 1)) (hc : chk (TG wt) = 0) (X : List (BitVec 8)) (hX : [] ++ layB (TG wt) (witd (TG wt)) = X) (n : Nat) (hn : X.length = n) (hp : 0 < n) :
    Calls Try.prog 15 #[.slice none 0 0, vG gi go] w fun e w' => ∃ g c, e = .returned (.tuple #[.slice (some ⟨g, 0, none⟩) n c, .int .i64 0]) ∧ Rd w' w'.heap.size (some ⟨g, 0, none⟩) X ∧ n ≤ c ∧ c ≤ 9223372036854775807 ∧ Below w.heap.size w w' := by
  have := Put_ok (TG wt) _ _ (.slice none 0 0) [] w h (Sl.nil _ _) (by simp) hc
  rw [hX] at this
  exact this.mono fun e w' hh => gave_w hn hp hh
set_option maxHeartbeats 4000000 in
theorem awake_any (w : World) : Calls Try.prog 6 #[] w (AwPost w) := by
  have KG := Lib.hid given_any
  have KW := Lib.hid witness_any
  have h5 : strB ((XA.drop 0).take 5) = { data := #[1, 0, 0, 0, 1] } := by kernel_rfl
  have h12 : strB ((XA.drop 46).take 12) = { data := #[1, 7, 0, 0, 0, 0, 0, 0, 0, 1, 81, 9] } := by kernel_rfl
  have h3 : strB ((XB.drop 4).take 3) = { data := #[0, 1, 1] } := by kernel_rfl
  have HS := Lib.hid (⟨h5, h12, h3⟩ : _ ∧ _ ∧ _)
  clear h5 h12 h3
  go_enter Try.func6, Try.ntmps6
  go_upto_region 2 with (first
    | (go_at_call 16; (refine (KG.out _).mono ?_); rintro e w1 ⟨gi, gs, go, rfl, hI, hSs, hO, _, hb1⟩; have K15 := Lib.hid (putG [] gi go w1 (tg_ok hI ⟨none, 0, rfl, Nat.le_refl _, by omega, fun h => by simp at h⟩ hO hSs) (by decide +kernel) XA rfl 61 XA_len (by omega)); have HB1 := Lib.hid hb1; clear hI hSs hO hb1; dsimp only)
    | (go_at_call 15; (refine K15.out.mono ?_); rintro e w2 ⟨g, c, rfl, hr, hc1, hc2, hb2⟩; have HR := Lib.hid hr; have HB2 : Hid (Below w.heap.size w w2) := HB1.out.trans (hb2.mono HB1.out.size); clear hr hb2 K15; dsimp only))
  go_upto_region 3 with (first
    | (go_at_call 17; (refine (KW.out _).mono ?_); rintro e w3 ⟨gj, gp, rfl, hok, hb3⟩; have K16 := Lib.hid (putG [[170]] gj gp w3 hok (by decide +kernel) XB rfl 66 XB_len (by omega)); have HB3 := Lib.hid hb3; clear hok hb3; dsimp only)
    | (go_at_call 15; (refine K16.out.mono ?_); rintro e w4 ⟨g2, d, rfl, hr2, hd1, hd2, hb4⟩; have HR2 := Lib.hid hr2; have HB4 := Lib.hid hb4; clear hr2 hb4 K16; dsimp only))
  have hr4 : Rd w4 w4.heap.size (some ⟨g, 0, none⟩) XA := ((HR.out.keep HB3.out).keep' HB4.out HB3.out.size).up (Nat.le_trans HB3.out.size HB4.out.size)
  have x5 := ext_part (c := c) hr4 0 5 c (by rw [XA_len]; omega) _ HS.out.1
  have x12 := ext_part (c := c) hr4 46 12 (c - 46) (by rw [XA_len]; omega) _ HS.out.2.1
  have x3 := ext_part (c := c) HR2.out 4 3 (d - 4) (by rw [XB_len]; omega) _ HS.out.2.2
  have HE := Lib.hid ((HB2.out.trans (HB3.out.mono HB2.out.size)).trans (HB4.out.mono (Nat.le_trans HB2.out.size HB3.out.size)))
  have n46 : ¬ c = 46 := by omega
  have n4 : ¬ d = 4 := by omega
  have i1 : (58 : Int) ≤ (c : Int) := by omega
  have i2 : (7 : Int) ≤ (d : Int) := by omega
  have i3 : (5 : Int) ≤ (c : Int) := by omega
  clear hr4
  go_wp2_with fail
  go_ret
  exact ⟨rfl, HE.out⟩
open Go.RowKit
set_option linter.unusedVariables false
set_option linter.unusedSimpArgs false
set_option maxRecDepth 100000
theorem left_still {p : Option Nat} {s : Option (List (BitVec 8))} {B : Nat} {w : World} (d : Nat) (hd : leftS s = d) (h : IsR w B p s) : Calls Try.prog 11 #[ptr p] w fun e w' => e = .returned (.int .i64 d) ∧ w' = w := by
  subst hd; exact (left_any p s B w h).mono fun e w' ⟨a, b⟩ => ⟨a, b.symm⟩
theorem IsR.drew {w : World} {B : Nat} {p : Option Nat} {s : Option (List (BitVec 8))} (h : IsR w B p s) : IsR w.drew B p s := h.keep fun _ _ => rfl
theorem below_drew {B : Nat} {w w' : World} (h : Below B w w') : Below B w w'.drew := ⟨h.os, h.tape, h.output, h.size, h.block⟩
theorem lit_below' {w w1 w2 : World} {g : Nat} (hb : Below w.heap.size w w1) (hg : w1.grownBy w2 (some g)) (h : w.heap.size ≤ g) : Below w.heap.size w w2 :=
  hb.grown hg hb.size (fun k e => by cases e; exact h)
theorem open_w (A : Option Addr) (L : List (BitVec 8)) (n cap B : Nat) (w : World) (hn : L.length = n) (hR : Rd w B A L) (hB : B ≤ w.heap.size) (hc : A = none → cap = 0) (hl : L.length ≤ 100000000) :
    Calls Try.prog 7 #[.slice A n cap] w fun e w' => ∃ g, e = .returned (ptr (some g)) ∧ IsR w' (g + 1) (some g) (some L) ∧ w.heap.size ≤ g ∧ g < w'.heap.size ∧ Below w.heap.size w w' := by
  subst hn; exact open_any A L cap B w hR hB hc hl
theorem Rd.fore {w : World} {B : Nat} {A : Option Addr} {L : List (BitVec 8)} (h : Rd w B A L) (n : Nat) (hn : n ≤ L.length) : Rd w B A (L.take n) := fun hp => by
  rw [List.length_take] at hp
  obtain ⟨b, o, e, hb, hc⟩ := h (by omega)
  refine ⟨b, o, e, hb, fun j hj => ?_⟩
  rw [List.length_take] at hj
  rw [hc j (by omega)]
  simp [List.getD, List.getElem?_take, show j < n by omega]
theorem conv_pre {w : World} {A : Option Addr} {L : List (BitVec 8)} {n c B : Nat} (h : Rd w B A L) (hn : n ≤ L.length) : (convert 22 9 (.slice A n c)).run Try.prog w = .ok (.string (strB (L.take n))) w :=
  conv_n (h.fore n hn) (by rw [List.length_take]; omega)
theorem gave_n {X : List (BitVec 8)} {n : Nat} (hn : X.length = n) {w : World} {e : Ending} {w' : World} (h : GavePost X w e w') :
    ∃ A c, e = .returned (.tuple #[.slice A n c, .int .i64 0]) ∧ Rd w' w'.heap.size A X ∧ Below w.heap.size w w' := by
  subst hn
  obtain ⟨A, c, rfl, ho, hb⟩ := h
  obtain ⟨A', cap, e, hr, _⟩ := ho.rd
  cases e
  exact ⟨A, c, rfl, hr, hb⟩
set_option maxHeartbeats 4000000 in
theorem txonce_any (A : Option Addr) (cap : Nat) (R : List (BitVec 8)) (w : World) (hR : Rd w w.heap.size A R) (hc : A = none → cap = 0) (hl : R.length ≤ cap) (hm : cap ≤ 9223372036854775807) :
    Calls Try.prog 5 #[.slice A R.length cap] w (AwPost w) := by
  have KW := Lib.hid (fun w => awake_any w)
  by_cases hbig : (10000 : Int) < (R.length : Int)
  · obtain ⟨n, hn⟩ : ∃ n, n = R.length := ⟨_, rfl⟩
    rw [← hn] at hbig ⊢
    clear hR hc hl hm hn
    go_enter Try.func5, Try.ntmps5
    go_wp2_with (go_at_call 6; (with_reducible refine (KW.out _).mono ?_); rintro e w5 ⟨rfl, hb⟩; have HB := Lib.hid hb; clear hb; dsimp only)
    go_ret
    exact ⟨rfl, HB.out⟩
  have hsm : ¬ (10000 : Int) < (R.length : Int) := hbig
  have hRl : R.length ≤ 10000 := by omega
  clear hbig
  have KO := Lib.hid (open_any A R cap w.heap.size w hR (Nat.le_refl _) hc (by omega))
  obtain ⟨n, hn⟩ : ∃ n, n = R.length := ⟨_, rfl⟩
  have HRX := Lib.hid hR
  have HN := Lib.hid hn
  have HShort : Hid (Short (some R) 100000000) := fun L e => by cases e; omega
  have hncap : n ≤ cap := by omega
  have HK8 : Hid (∀ g wq, IsR wq (g + 1) (some g) (some R) → g + 1 ≤ wq.heap.size → Calls Try.prog 8 #[ptr (some g)] wq (ParsePost (rP (some R)) (g + 1) (some g) wq)) := fun g wq h h2 => parse_any (some g) (some R) (g + 1) wq h h2 HShort.out
  have HO := Lib.hid (fun h => rP_once (s := some R) h)
  have HE := Lib.hid (rP_034 (some R))
  obtain ⟨rp, hrp⟩ : ∃ r, r = rP (some R) := ⟨_, rfl⟩
  rw [← hrp] at HK8 HO HE
  rw [← hn] at KO hsm hRl hl ⊢
  clear hR hc hn hrp HShort
  go_enter Try.func5, Try.ntmps5
  go_upto_region 4 with (go_at_call 7; (with_reducible refine KO.out.mono ?_); rintro e w1 ⟨g, rfl, hi, h1, h2, hb⟩; have K8 := Lib.hid (HK8.out g w1 hi (by omega)); have HL1 := Lib.hid h1; have HL2 := Lib.hid h2; have HB := Lib.hid hb; clear hi h1 h2 hb KO HK8; dsimp only)
  by_cases he : rp.1 = 0
  · obtain ⟨M, hM, ⟨hRe, hck, hti⟩⟩ := HO.out he
    obtain ⟨t, ht⟩ : ∃ t, t = rp.2.1 := ⟨_, rfl⟩
    obtain ⟨F, hF⟩ : ∃ F, F = layB t (witd t) := ⟨_, rfl⟩
    have eP : Hid (rp = (0, t, some M)) := by
      show rp = (0, t, some M)
      rw [← hM, ht, ← he]
    rw [← ht] at hRe hck
    rw [← hF] at hRe
    injection hRe with hRe
    obtain ⟨l, hll⟩ : ∃ l, l = F.length := ⟨_, rfl⟩
    have hnl : n = l + M.length := by rw [HN.out, hRe, List.length_append, hll]
    have hRt : R.take l = F := by rw [hRe, hll]; simp
    have hMl : leftS (some M) = n - l := by show M.length = _; omega
    have hlR : l ≤ R.length := by rw [← HN.out]; omega
    have HlR := Lib.hid hlR
    have HRt := Lib.hid hRt
    have HMl := Lib.hid hMl
    have HF := Lib.hid hF
    have Hll := Lib.hid hll
    have Hck := Lib.hid hck
    have hlc : l ≤ cap := by omega
    have hln : l ≤ n := by omega
    rw [eP.out] at K8
    clear he hM hRe hck hti ht hF hll hnl hRt hMl hlR HO HE eP HN
    go_upto_region 7 with (go_at_call 8; go_loud ((with_reducible refine K8.out.mono ?_); rintro e w2 ⟨i, o, rfl, hok, _, hi2, hg2⟩; have hTX := (hok rfl).ok; obtain ⟨⟨A1, c1, rfl, _⟩, ⟨A2, c2, rfl, _⟩, _⟩ := id hTX; have HTX := Lib.hid hTX; have HI2 := Lib.hid hi2; have HB2 := Lib.hid (lit_below' HB.out hg2 HL1.out); have HS2 := Lib.hid hg2.size; clear hok hTX hi2 hg2 K8; dsimp only [txV]))
    have hbw : Below w2.heap.size w2 (w2.alloc (.cells #[.int .u32 (t.ver : Int), .slice A1 t.ins.length c1, .slice A2 t.outs.length c2, .int .u32 (t.lock : Int)] 33)) := (Below.refl _ _).alloc (Nat.le_refl _) _
    have hPut := Put_ok t (.slice A1 t.ins.length c1) (.slice A2 t.outs.length c2) (.slice none 0 0) [] _ ((HTX.out.keep hbw (Nat.le_refl _)).up hbw.size) (Sl.nil _ _) (by simp) Hck.out
    rw [List.nil_append, ← HF.out] at hPut
    have KP := Lib.hid (hPut.mono fun e w' hh => gave_n Hll.out.symm hh)
    have HB3 : Hid (Below w.heap.size w (w2.alloc (.cells #[.int .u32 (t.ver : Int), .slice A1 t.ins.length c1, .slice A2 t.outs.length c2, .int .u32 (t.lock : Int)] 33))) := HB2.out.trans (hbw.mono HB2.out.size)
    have HI3 : Hid (IsR (w2.alloc (.cells #[.int .u32 (t.ver : Int), .slice A1 t.ins.length c1, .slice A2 t.outs.length c2, .int .u32 (t.lock : Int)] 33)) (g + 1) (some g) (some M)) := HI2.out.below hbw (by have := HL2.out; have := HS2.out; omega)
    have HZ : Hid (g + 1 ≤ (w2.alloc (.cells #[.int .u32 (t.ver : Int), .slice A1 t.ins.length c1, .slice A2 t.outs.length c2, .int .u32 (t.lock : Int)] 33)).heap.size) := Nat.le_trans (show g + 1 ≤ w2.heap.size by have := HL2.out; have := HS2.out; omega) hbw.size
    clear hPut hbw HTX HI2 HB2 HS2
    have hbx := Blk.new w2 33 #[.int .u32 (t.ver : Int), .slice A1 t.ins.length c1, .slice A2 t.outs.length c2, .int .u32 (t.lock : Int)]
    have x0 := hbx.cell (j := 0) rfl
    have x1 := hbx.cell (j := 1) rfl
    have x2 := hbx.cell (j := 2) rfl
    have x3 := hbx.cell (j := 3) rfl
    clear hbx
    generalize (w2.alloc (.cells #[.int .u32 (t.ver : Int), .slice A1 t.ins.length c1, .slice A2 t.outs.length c2, .int .u32 (t.lock : Int)] 33)) = W3 at *
    unfold txV at KP
    go_upto_region 8 with (go_at_call 15; go_loud ((with_reducible refine KP.out.mono ?_); rintro e w3 ⟨A3, c3, rfl, hr3, hb3⟩; have HI4 := Lib.hid (HI3.out.below hb3 HZ.out); have HB4 : Hid (Below w.heap.size w w3) := HB3.out.trans (hb3.mono HB3.out.size); have HR3 := Lib.hid hr3; clear hb3 hr3 KP; dsimp only))
    have e1 : ∀ wd : World, wd = w3.drew → (convert 22 9 (.slice A3 l c3)).run Try.prog wd = .ok (.string (strB F)) wd := fun wd e => by
      subst e; exact conv_n (B := w3.heap.size) HR3.out Hll.out
    have e2 : ∀ wd : World, wd = w3.drew → (convert 22 9 (.slice A l cap)).run Try.prog wd = .ok (.string (strB F)) wd := fun wd e => by
      subst e
      have := conv_pre (n := l) (c := cap) (HRX.out.keep (below_drew HB4.out)) HlR.out
      rw [HRt.out] at this; exact this
    have KL : Hid (∀ wd : World, wd = w3.drew → Calls Try.prog 11 #[ptr (some g)] wd fun e w' => e = .returned (.int .i64 ((n - l : Nat) : Int)) ∧ w' = wd) := fun wd e => by
      subst e; exact left_still (n - l) HMl.out HI4.out.drew
    have HB5 : Hid (∀ wd : World, wd = w3.drew → Below w.heap.size w wd) := fun wd e => by subst e; exact below_drew HB4.out
    clear x0 x1 x2 x3
    refine wp_region_still_tail 17 (by kernel_rfl) (by kernel_rfl) ?_
    change wpStill _ _ w3.drew (fun a' => wpList _ _ _ _ a' w3.drew) _ _
    generalize hWd : w3.drew = Wd
    have d1 := e1 Wd hWd.symm
    have d2 := e2 Wd hWd.symm
    have DL := Lib.hid (KL.out Wd hWd.symm)
    have DB := Lib.hid (HB5.out Wd hWd.symm)
    have es : ((strB F).toList == (strB F).toList) = true := beq_self_eq_true _
    generalize strB F = s at d1 d2 es
    have i1 : IntKind.i64.wrap ((n : Int) - ((n - l : Nat) : Int)) = (l : Int) := by rw [IntWalk.i64_in _ (by omega)]; omega
    have i2 : max (0 : Int) (l : Int) = (l : Int) := by omega
    have i3 : (l : Int) ≤ (cap : Int) := by omega
    have i4 : (0 : Int) ≤ (l : Int) := by omega
    generalize ((n - l : Nat) : Int) = dd at DL i1
    clear e1 e2 KL HB5 hWd
    simp only [List.take_succ_cons, List.take_zero, List.drop_succ_cons, List.drop_zero]
    repeat still_step
    still_call DL.out
    repeat still_step
    refine wpStill_nil ?_
    clear d1 d2 es i1 i2
    go_wp2_with (go_at_call 6; (with_reducible refine (KW.out _).mono ?_); rintro e w5 ⟨rfl, hb⟩; dsimp only)
    go_ret
    exact ⟨rfl, DB.out.trans (hb.mono DB.out.size)⟩
  · have h34 : rp.1 = 3 ∨ rp.1 = 4 := by
      rcases HE.out with h | h
      · exact absurd h he
      · exact h
    obtain ⟨c, hcv⟩ : ∃ c, c = rp.1 := ⟨_, rfl⟩
    have K9 : Hid (Calls Try.prog 8 #[ptr (some g)] w1 fun e w' => e = .returned (.tuple #[.agg #[.int .u32 0, .slice none 0 0, .slice none 0 0, .int .u32 0], .int .i64 c]) ∧ Below w.heap.size w w') := K8.out.mono fun e w' ⟨i, o, h1, _, h3, _, h5⟩ => by
      obtain ⟨e1, e2, e3⟩ := h3 he
      refine ⟨?_, lit_below' HB.out h5 HL1.out⟩
      rw [h1, e1, e2, e3, hcv]; rfl
    rw [← hcv] at h34
    clear K8 he HO HE hcv
    rcases h34 with rfl | rfl
    all_goals
      go_wp2_with (first
        | (go_at_call 8; (with_reducible refine K9.out.mono ?_); rintro e w2 ⟨rfl, hb2⟩; have HB2 := Lib.hid hb2; clear hb2 K9; dsimp only)
        | (go_at_call 6; (with_reducible refine (KW.out _).mono ?_); rintro e w5 ⟨rfl, hb⟩; dsimp only))
      go_ret
      exact ⟨rfl, HB2.out.trans ((((Below.refl _ _).alloc (Nat.le_refl _) _).trans (hb.mono (by simp))).mono HB2.out.size)⟩
open Go.RowKit
set_option linter.unusedVariables false
set_option linter.unusedSimpArgs false
set_option maxRecDepth 100000
set_option maxHeartbeats 4000000 in
theorem eqf_texts (v u : Value) (xs ys : List (List (BitVec 8))) (w : World) (h1 : Ws w w.heap.size v xs) (h2 : Ws w w.heap.size u ys) :
    Calls Try.prog 46 #[v, u, .func (.func 45) #[] #[]] w (EqPost (decide (xs = ys)) w) := by
  obtain ⟨A, c, b, o, rfl, hA, hr⟩ := Row.open h1
  obtain ⟨A2, c2, b2, o2, rfl, hA2, hr2⟩ := Row.open h2
  obtain ⟨_, _, e1, hm1, hm2, _⟩ := h1
  cases e1
  have HR := Lib.hid hr
  have HR2 := Lib.hid hr2
  have HA := Lib.hid hA
  have HA2 := Lib.hid hA2
  obtain ⟨lx, hlx⟩ : ∃ n, n = xs.length := ⟨_, rfl⟩
  obtain ⟨ly, hly⟩ : ∃ n, n = ys.length := ⟨_, rfl⟩
  have Hlx := Lib.hid hlx
  have Hly := Lib.hid hly
  have hlm : lx ≤ 9223372036854775807 := by omega
  have Hb0 := Lib.hid (Below.refl w.heap.size w)
  rw [← hlx, ← hly]
  clear hr hr2 hA hA2 hm1 hm2 h2
  by_cases hl : lx = ly
  · have hly2 : ly = ys.length := hly
    clear hly
    subst hl
    clear hlx hly2
    go_enter Try.func46, Try.ntmps46
    go_wp2_with fail
    go_loopw [17] (fun iv wq => ∃ i : Nat, i ≤ lx ∧ iv = .int .i64 (i : Int) ∧ xs.take i = ys.take i ∧ Below w.heap.size w wq) (fun iv _ => lx - (intOf iv).toNat)
    case atStart => exact ⟨0, Nat.zero_le _, rfl, rfl, Hb0.out⟩
    case round =>
      obtain ⟨i, hi, rfl, he, hb⟩ := hrel
      have HE := Lib.hid he
      clear he
      by_cases hlt : i < lx
      · have hlt' : (i : Int) < (lx : Int) := by omega
        obtain rfl := HA.out (by rw [← Hlx.out]; omega)
        obtain rfl := HA2.out (by rw [← Hly.out]; omega)
        obtain ⟨hbl, z1, cu, hs⟩ := HR.out i (by rw [← Hlx.out]; exact hlt)
        obtain ⟨hbl2, z2, cu2, hs2⟩ := HR2.out i (by rw [← Hly.out]; exact hlt)
        have hst := take_eq_succ xs ys [] i (by rw [← Hlx.out]; exact hlt) (by rw [← Hly.out]; exact hlt) HE.out
        have hne := ne_at xs ys [] i
        rw [Nat.mul_one] at cu cu2
        have c0 : wr.cell? ⟨b, o + i, none⟩ = some z1 := by rw [hb.cell (p := ⟨b, o + i, none⟩) hbl]; exact cu
        have c1 : wr.cell? ⟨b2, o2 + i, none⟩ = some z2 := by rw [hb.cell (p := ⟨b2, o2 + i, none⟩) hbl2]; exact cu2
        have hs1 := (hs.keep hb (Nat.le_refl _)).up hb.size
        have hs21 := (hs2.keep hb (Nat.le_refl _)).up hb.size
        generalize xs.getD i [] = x at hs hs1 hst hne
        generalize ys.getD i [] = y at hs2 hs21 hst hne
        have Hb := Lib.hid hb
        have KK : Hid (∀ wq, Below wr.heap.size wr wq → Calls Try.prog 45 #[z1, z2] wq (EqPost (decide (x = y)) wq)) := fun wq hq => sameText_any z1 z2 x y wq ((hs1.keep hq (Nat.le_refl _)).up hq.size) ((hs21.keep hq (Nat.le_refl _)).up hq.size)
        obtain ⟨Ax, cx, rfl, _⟩ := hs1
        obtain ⟨Ay, cy, rfl, _⟩ := hs21
        have K := KK
        by_cases hxy : x = y
        · have HT := Lib.hid (hst.2 hxy)
          rw [show decide (x = y) = true by simpa using hxy] at K
          clear hst hne hxy hbl hbl2 hb cu cu2 hs hs2
          go_wp2_with (go_at_call 45; (with_reducible refine (K.out _ (Below.refl _ _)).mono ?_); rintro e w2 ⟨rfl, hb2⟩; dsimp only)
          go_roundw
          case rel => exact ⟨i + 1, by omega, by go_num, HT.out, Hb.out.trans (hb2.mono Hb.out.size)⟩
          case measure => simp [intOf]; omega
        · have HT : Hid (decide (xs = ys) = false) := show decide (xs = ys) = false by simpa using hne hxy
          rw [show decide (x = y) = false by simpa using hxy] at K
          clear hst hne hxy hbl hbl2 hb cu cu2 hs hs2
          go_wp2_with (go_at_call 45; (with_reducible refine (K.out _ (Below.refl _ _)).mono ?_); rintro e w2 ⟨rfl, hb2⟩; dsimp only)
          go_ret
          exact ⟨by rw [HT.out]; rfl, Hb.out.trans (hb2.mono Hb.out.size)⟩
      · obtain rfl : i = lx := by omega
        have hlt' : ¬ (i : Int) < (i : Int) := by omega
        have HT : Hid (decide (xs = ys) = true) := show decide (xs = ys) = true by
          have := HE.out
          rw [List.take_of_length_le (by rw [← Hlx.out]; exact Nat.le_refl _), List.take_of_length_le (by rw [← Hly.out]; exact Nat.le_refl _)] at this
          simpa using this
        go_wp2_with fail
        go_ret
        exact ⟨by rw [HT.out]; rfl, hb⟩
  · have e1 : ((lx : Int) != (ly : Int)) = true := by simp; omega
    have HT : Hid (decide (xs = ys) = false) := show decide (xs = ys) = false by
      have : xs ≠ ys := fun e => hl (by rw [hlx, hly, e])
      simpa using this
    clear hl hlx hly
    go_enter Try.func46, Try.ntmps46
    go_wp2_with fail
    go_ret
    exact ⟨by rw [HT.out]; rfl, Hb0.out⟩
open Go.RowKit
set_option linter.unusedVariables false
set_option linter.unusedSimpArgs false
set_option maxRecDepth 100000
def prevV (X : List (BitVec 8)) (a : Nat) : List Value := vbs X ++ [.int .u32 (a : Int)]
theorem part_tx (X : List (BitVec 8)) (a : Nat) (hX : X.length = 32) (w : World) : (part 55 (prevV X a).toArray 0).run Try.prog w = .ok (.agg (vbs X).toArray) w := by
  have h1 : (isAgg 55).run Try.prog w = .ok true w := by kernel_rfl
  have h2 : (sizeOf 55).run Try.prog w = .ok 32 w := by kernel_rfl
  have hl : (vbs X).length = 32 := by rw [vbs_len, hX]
  simp [part, h1, h2, prevV]
  rw [List.take_append_of_le_length (by omega), List.take_of_length_le (by omega)]
theorem part_ix (X : List (BitVec 8)) (a : Nat) (hX : X.length = 32) (w : World) : (part 29 (prevV X a).toArray 32).run Try.prog w = .ok (.int .u32 (a : Int)) w := by
  have h1 : (isAgg 29).run Try.prog w = .ok false w := by kernel_rfl
  have hl : (vbs X).length = 32 := by rw [vbs_len, hX]
  simp [part, h1, prevV, hl]
theorem eql57 (X Y : List (BitVec 8)) (a b : Nat) (hX : X.length = 32) (hY : Y.length = 32) (w : World) :
    (binOp .eql 57 (.agg (prevV X a).toArray) (.agg (prevV Y b).toArray)).run Try.prog w = .ok (.bool (decide (X = Y) && decide (a = b))) w := by
  have hS : Try.prog.underlying 57 = some (.struct (Try.prog.fieldsOf 57)) := by kernel_rfl
  have hp : Try.prog.stoodInHeld 57 = false := by kernel_rfl
  have px := part_tx X a hX
  have py := part_tx Y b hY
  have qx := part_ix X a hX
  have qy := part_ix Y b hY
  have eX : vbs X = (X.map UInt8.ofBitVec).map Extern.Stop.cell := by simp [vbs, Extern.Stop.cell, Bt]
  have eY : vbs Y = (Y.map UInt8.ofBitVec).map Extern.Stop.cell := by simp [vbs, Extern.Stop.cell, Bt]
  have hb : ∀ w, (Op.equalIn 9999 55 (.agg (vbs X).toArray) (.agg (vbs Y).toArray)).run Try.prog w = .ok (decide (X = Y)) w := fun w => by
    have := run_equalIn_bytes (P := Try.prog) w 9997 55 5 32 Try.underlying55 Try.underlying5 (fun _ => by kernel_rfl) (X.map UInt8.ofBitVec) (Y.map UInt8.ofBitVec) (by simpa using hX) (by simpa using hY)
    rw [← eX, ← eY] at this
    rw [this]
    congr 1
    rw [Bool.eq_iff_iff]
    simp only [beq_iff_eq, decide_eq_true_eq]
    constructor
    · intro h
      have := congrArg (List.map UInt8.toBitVec) h
      simpa [List.map_map, Function.comp_def] using this
    · intro h
      rw [h]
  rw [run_eql_struct, show (10000 : Nat) = 9999 + 1 from rfl, run_equalIn_agg w 9999 57 _ _ hS hp]
  simp only [Program.fieldsOf, Try.underlying57]
  generalize (prevV X a).toArray = P1 at px qx ⊢
  generalize (prevV Y b).toArray = P2 at py qy ⊢
  have hi : ∀ w, (Op.equalIn 9999 29 (.int .u32 (a : Int)) (.int .u32 (b : Int))).run Try.prog w = .ok ((a : Int) == (b : Int)) w := fun w => run_equalIn_int w 9998 29 .u32 .u32 _ _ Try.underlying29
  simp only [Op.eqFields, Sem.run_bind, px, py, qx, qy, hb, hi, Result.andThen_ok, Sem.run_ite, Sem.run_pure]
  by_cases h1 : X = Y <;> by_cases h2 : a = b <;> simp [h1, h2] <;> omega
theorem neq57 (X Y : List (BitVec 8)) (a b : Nat) (hX : X.length = 32) (hY : Y.length = 32) (w : World) :
    (binOp .neq 57 (.agg (prevV X a).toArray) (.agg (prevV Y b).toArray)).run Try.prog w = .ok (.bool (!(decide (X = Y) && decide (a = b)))) w := by
  have h := eql57 X Y a b hX hY w
  rw [run_eql_struct] at h
  rw [run_neq_struct]
  generalize (Op.equalIn 10000 57 (.agg (prevV X a).toArray) (.agg (prevV Y b).toArray)).run Try.prog w = r at h ⊢
  cases r with
  | ok v w' =>
    simp only [Result.andThen_ok] at h ⊢
    cases h
    rfl
  | halt e w' => simp [Result.andThen] at h
theorem inV_prev {x : TIn} {s u : Value} : inV x s u = prevV x.tx x.ix ++ [s, .int .u32 (x.sq : Int), u] := by simp [inV, prevV]
theorem prevV_len {X : List (BitVec 8)} {a : Nat} (h : X.length = 32) : (prevV X a).length = 33 := by simp [prevV, vbs_len, h]
theorem info57 {X : List (BitVec 8)} {a : Nat} (h : X.length = 32) : (Try.prog.info? 57).map (·.size) = some (prevV X a).length := by rw [prevV_len h]; kernel_rfl
theorem Blk.prev {w : World} {b T : Nat} {x : TIn} {s u : Value} (h : Blk w b T (inV x s u)) : w.rangeAt b 0 (prevV x.tx x.ix) := fun j v hv => by
  rw [Nat.zero_add]
  refine h.cell ?_
  rw [inV_prev, List.getElem?_append_left (List.getElem?_eq_some_iff.1 hv).1]
  exact hv
open Go.RowKit
theorem own : ownKnob Try.prog.godebug = none := by kernel_rfl
theorem laidOut : laidOutB Try.prog = true := by kernel_rfl
open Go.ChangeShapes Go.WideShapes Go.ChangeAt Go.RowKit Go.Deep
set_option linter.unusedVariables false
set_option linter.unusedSimpArgs false
set_option maxRecDepth 100000
section
variable {H : Type} {enc : TypeId × Value → H} {W : World} {base : Nat} {held : Bool}
theorem mid_none {w : World} {b o : Nat} {sp : Option _} {v : Value} (h : w.cell? ((⟨b, o, sp⟩ : Addr).add 0) = some v) : sp = none := by
  cases sp with
  | none => rfl
  | some q =>
    exfalso
    have e : (⟨b, o, some q⟩ : Addr).add 0 = ⟨b, o, some q⟩ := by unfold Addr.add; simp
    rw [e] at h
    unfold World.cell? at h
    revert h
    cases w.heap[b]? with
    | none => simp
    | some ob => cases ob <;> simp
theorem sl_of {fuel : Nat} {cs : List Value} {x : DataW H × List MemPlace} (h : DataW.trod enc Try.prog W base (fun _ => true) held fuel 22 cs = some x) : ∃ v L, cs = [v] ∧ Sl W W.heap.size v L := by
  rcases open_ints Try.underlying22 Try.underlying5 (by kernel_rfl) h with ⟨hcs, _⟩ | ⟨a, l, c, zs, hcs, _, hl, hm, hz, _, hcell, hwz⟩
  · exact ⟨_, [], hcs, Sl.nil _ _⟩
  · have hrow : IsRow W (some a) l c zs := .inr ⟨a, rfl, hl, hm, by simpa using hz, hcell, hwz⟩
    obtain ⟨R, hR, hrd, hlc, hcc⟩ := rd_of_row hrow
    exact ⟨_, R, hcs, some a, c, by rw [hR], hrd, by omega, hcc, fun h => by cases h⟩
theorem sl_form {v : Value} {L : List (BitVec 8)} {w : World} {B : Nat} (h : Sl w B v L) : ∃ A n c, v = .slice A n c := by
  obtain ⟨A, c, e, _⟩ := h
  exact ⟨A, _, c, e⟩
theorem ws_of {fuel : Nat} {cs : List Value} {x : DataW H × List MemPlace} (h : DataW.trod enc Try.prog W base (fun _ => true) held fuel 58 cs = some x) : ∃ v Ls, cs = [v] ∧ Ws W W.heap.size v Ls := by
  rcases open_slice1 Try.underlying58 (by kernel_rfl) h with ⟨hcs, _⟩ | ⟨a, len, cap, m, n, V, D, Pl, hcs, _, hl, hm, hmm, _, hx⟩
  · exact ⟨_, [], hcs, none, 0, rfl, Nat.le_refl _, by omega, fun h => by simp at h⟩
  · simp at hmm
    subst hmm
    have each : ∀ i, i < m → ∃ L, Sl W W.heap.size (V i) L := fun i hi => by
      obtain ⟨v, L, e, hs⟩ := sl_of (hx i hi).2
      cases e
      exact ⟨L, hs⟩
    obtain ⟨E, hE⟩ := choose_lt each
    refine ⟨_, (List.range len).map E, hcs, some a, m, by simp, by simpa using hl, by unfold maxLen at hm; omega, fun hp => ?_⟩
    simp at hp
    obtain ⟨b, o, sp⟩ := a
    have hc0 := (hx 0 (by omega)).1
    obtain rfl := mid_none hc0
    refine ⟨b, o, rfl, ?_, fun j hj => ?_⟩
    · rw [Addr.add_mid] at hc0
      exact World.block_lt_of_cell? W _ hc0
    · simp at hj
      have h1 := (hx j (by omega)).1
      rw [Addr.add_mid] at h1
      refine ⟨V j, by rw [Nat.mul_one]; exact h1, ?_⟩
      have e : ((List.range len).map E).getD j [] = E j := by simp [List.getD, hj]
      rw [e]
      exact hE j (by omega)
theorem hash_of {fuel : Nat} {cs : List Value} {x : DataW H × List MemPlace} (h : DataW.trod enc Try.prog W base (fun _ => true) held fuel 55 cs = some x) : ∃ X : List (BitVec 8), X.length = 32 ∧ cs = vbs X := by
  obtain ⟨xs, m, _, _, hlen, hxl, hi⟩ := DataW.trod_array Try.underlying55 h
  have h32 : Try.prog.cellsOf 55 = 32 := by kernel_rfl
  have h1 : Try.prog.cellsOf 5 = 1 := by kernel_rfl
  rw [h32] at hlen
  have each : ∀ i, i < 32 → ∃ z : BitVec 8, cs[i]? = some (.int .u8 (Bt z)) := fun i hi' => by
    have hk := hi i hi'
    rw [h1, Nat.mul_one] at hk
    have hx : xs[i]? = some (xs[i]'(by omega)) := List.getElem?_eq_getElem (by omega)
    rw [hx] at hk
    obtain ⟨n, e, _, hwf⟩ := DataW.trod_int Try.underlying5 hk
    have : cs[i]? = some (.int .u8 n) := by
      have e2 : ((cs.drop i).take 1)[0]? = some (.int .u8 n) := by rw [e]; rfl
      simpa using e2
    exact ⟨BitVec.ofInt 8 n, by rw [byte_of hwf]; exact this⟩
  obtain ⟨E, hE⟩ := choose_lt each
  refine ⟨(List.range 32).map E, by simp, ?_⟩
  apply List.ext_getElem?
  intro i
  by_cases hi' : i < 32
  · rw [hE i hi']
    simp [vbs, hi']
  · rw [List.getElem?_eq_none (by omega), List.getElem?_eq_none (by simp [vbs]; omega)]
theorem u32_of {fuel : Nat} {cs : List Value} {x : DataW H × List MemPlace} (h : DataW.trod enc Try.prog W base (fun _ => true) held fuel 29 cs = some x) : ∃ n : Nat, n < 4294967296 ∧ cs = [.int .u32 (n : Int)] := by
  obtain ⟨n, e, _, hwf⟩ := DataW.trod_int Try.underlying29 h
  have hb : 0 ≤ n ∧ n ≤ 4294967295 := by
    have := hwf
    simp [Lit.wf, IntKind.min, IntKind.max, IntKind.signed, IntKind.bits] at this
    omega
  exact ⟨n.toNat, by omega, by rw [e, show ((n.toNat : Nat) : Int) = n by omega]⟩
theorem i64_of {fuel : Nat} {cs : List Value} {x : DataW H × List MemPlace} (h : DataW.trod enc Try.prog W base (fun _ => true) held fuel 2 cs = some x) : ∃ n : Int, -9223372036854775808 ≤ n ∧ n < 9223372036854775808 ∧ cs = [.int .i64 n] := by
  obtain ⟨n, e, _, hwf⟩ := DataW.trod_int Try.underlying2 h
  have hb : -9223372036854775808 ≤ n ∧ n ≤ 9223372036854775807 := by
    have := hwf
    simp [Lit.wf, IntKind.min, IntKind.max, IntKind.signed, IntKind.bits] at this
    omega
  exact ⟨n, by omega, by omega, e⟩
theorem field_of {fuel : Nat} {t : TypeId} {cs : List Value} {x : DataW H × List MemPlace} {fs : Array Field} (ht : Try.prog.underlying t = some (.struct fs)) (h : DataW.trod enc Try.prog W base (fun _ => true) held fuel t cs = some x) (i : Nat) (f : Field) (hf : fs[i]? = some f) :
    ∃ n y, DataW.trod enc Try.prog W base (fun _ => true) held n f.type ((cs.drop f.offset).take (Try.prog.cellsOf f.type)) = some y := by
  obtain ⟨xs, n, _, _, hlen, hxl, hi⟩ := DataW.trod_struct ht h
  have hk := hi i f hf
  have hx : xs[i]? = some (xs[i]'(by have := (Array.getElem?_eq_some_iff.1 hf).1; omega)) := List.getElem?_eq_getElem _
  rw [hx] at hk
  exact ⟨n, _, hk⟩
theorem prev_of {fuel : Nat} {cs : List Value} {x : DataW H × List MemPlace} (h : DataW.trod enc Try.prog W base (fun _ => true) held fuel 57 cs = some x) : ∃ X a, X.length = 32 ∧ a < 4294967296 ∧ cs = prevV X a := by
  have hl : cs.length = 33 := by
    obtain ⟨xs, n, _, _, hlen, _⟩ := DataW.trod_struct Try.underlying57 h
    rw [hlen]; kernel_rfl
  obtain ⟨n1, y1, h1⟩ := field_of Try.underlying57 h 0 _ rfl
  obtain ⟨n2, y2, h2⟩ := field_of Try.underlying57 h 1 _ rfl
  obtain ⟨X, hX, e1⟩ := hash_of h1
  obtain ⟨a, ha, e2⟩ := u32_of h2
  refine ⟨X, a, hX, ha, ?_⟩
  have c1 : Try.prog.cellsOf 55 = 32 := by kernel_rfl
  have c2 : Try.prog.cellsOf 29 = 1 := by kernel_rfl
  have e1' : cs.take 32 = vbs X := by rw [← e1]; simp [c1]
  have e2' : cs.drop 32 = [.int .u32 (a : Int)] := by rw [← e2]; simp [c2, List.take_of_length_le, hl]
  unfold prevV
  rw [← e1', ← e2', List.take_append_drop]
end
end Go.Proofs.Ytnkkhmgplpkjbaa
