/- What header.Get and the document's own value return. -/
import Derived.Test.YtefiacnpbkancaaDoorHh
namespace Go.Proofs.YtefiacnpbkancaaDoor
open Go.RowKit
set_option linter.unusedVariables false
set_option linter.unusedSimpArgs false
set_option maxRecDepth 100000
theorem value_w (A : Option Addr) (X : List (BitVec 8)) (n cap B : Nat) (w : World) (hR : Rd w B A X) (hn : X.length = n) (h4 : 4 ≤ n) (hc : n ≤ cap) (hm : cap ≤ 9223372036854775807) : Calls Tryd.prog 26 #[.slice A n cap] w fun e w' => e = .returned (.int .u32 (lev (X.take 4) : Int)) ∧ w = w' := by
  have hR4 : Rd w B A (X.take 4) := fun hp => by
    obtain ⟨b, o, e, hlt, hcc⟩ := hR (by omega)
    refine ⟨b, o, e, hlt, fun j hj => ?_⟩
    have hj4 : j < 4 := by rw [List.length_take] at hj; omega
    rw [hcc j (by omega)]
    simp [List.getD, hj4]
  have hl4 : (X.take 4).length = 4 := by rw [List.length_take]; omega
  have K := Lib.hid (fun cp => value_n A (X.take 4) 4 cp B w hl4 hR4 (by omega))
  have hlt := lev4 X
  obtain ⟨z, hz⟩ : ∃ z, z = lev (X.take 4) := ⟨_, rfl⟩
  rw [← hz] at K hlt ⊢
  have hw32 : IntKind.u32.wrap (z : Int) = (z : Int) := by rw [IntKind.wrap_u32]; omega
  have h4c : (4 : Int) ≤ (cap : Int) := by omega
  have HR := Lib.hid hR
  clear hR hR4 hl4 hz hlt hn h4
  go_enter Tryd.func26, Tryd.ntmps26
  go_wp2_with (go_at_call 36; (with_reducible refine (K.out _).mono ?_); rintro e w' ⟨rfl, rfl⟩; dsimp only)
  go_ret
  exact ⟨rfl, rfl⟩
/-- What Get tells of the bytes L. -/
def hgetH (L : List (BitVec 8)) : THd := if L.length = 80 then hdOf L else hd0
def hgetE (L : List (BitVec 8)) : Int := if L.length = 80 then 0 else 4
theorem hgetH_ok (L : List (BitVec 8)) : HdOk (hgetH L) := by
  unfold hgetH
  by_cases h : L.length = 80
  · rw [if_pos h]; exact hdOf_ok h
  · rw [if_neg h]; exact hd0_ok
theorem zero26 : ∀ w, (zeroValue 26).run Tryd.prog w = .ok (.agg (hdV hd0).toArray) w := fun _ => by kernel_rfl
def HGetPost (L : List (BitVec 8)) (w : World) (e : Ending) (w' : World) : Prop := e = .returned (.tuple #[.agg (hdV (hgetH L)).toArray, .int .i64 (hgetE L)]) ∧ Below w.heap.size w w'
theorem IsR.num4 {w : World} {g B : Nat} {L : List (BitVec 8)} (h : IsR w B (some g) (some L)) (hB : B ≤ w.heap.size) (hL : 4 ≤ L.length) : Calls Tryd.prog 24 #[ptr (some g), .int .i64 4] w (NumPost (lev (L.take 4)) (some (L.drop 4)) B (some g) w) := by
  have hh : hasB (some L) 4 = true := by simp [hasB]; omega
  obtain ⟨e1, e2, _⟩ := cut_yes hh
  exact num_w w g B L 4 _ _ (by unfold numV; rw [if_pos (by rfl), e1]; rfl) (by unfold numS; rw [if_pos (by rfl), e2]; rfl) h hB
theorem IsR.hash {w : World} {g B : Nat} {L : List (BitVec 8)} (h : IsR w B (some g) (some L)) (hB : B ≤ w.heap.size) (hL : 32 ≤ L.length) : Calls Tryd.prog 25 #[ptr (some g)] w (HashPost (L.take 32) (some (L.drop 32)) B (some g) w) := by
  have hh : hasB (some L) 32 = true := by simp [hasB]; omega
  obtain ⟨e1, e2, _⟩ := cut_yes hh
  have := hash_any (some g) (some L) B w h hB
  have e3 : hashL (some L) = L.take 32 := by unfold hashL; rw [if_pos hh, e1]; rfl
  have e4 : cutS (some L) 32 = some (L.drop 32) := e2
  rw [e3, e4] at this
  exact this
theorem hdV_one (h : THd) : ∀ v ∈ hdV h, v.oneCell' = true := by
  intro v hv
  simp only [hdV, List.mem_cons, List.mem_append, List.not_mem_nil, or_false] at hv
  rcases hv with rfl | hv | hv | rfl | rfl | rfl
  · rfl
  · exact vbs_one _ v hv
  · exact vbs_one _ v hv
  all_goals rfl
theorem there_hd {w : World} {b : Nat} {T : TypeId} {h g : THd} (hb : Blk w b T (hdV g)) (kg : HdOk g) (kh : HdOk h) : w.there b 0 (hdV h).toArray.size := by
  have := hb.there
  rw [hdV_len kg] at this
  rw [List.size_toArray, hdV_len kh]
  exact this
theorem info26v {h : THd} (k : HdOk h) : (Tryd.prog.info? 26).map (·.size) = some (hdV h).toArray.size := by rw [List.size_toArray]; exact info26 k
set_option maxHeartbeats 4000000 in
theorem hget_no (A : Option Addr) (L : List (BitVec 8)) (cap : Nat) (w : World) (hl : L.length ≤ 100000000) (hL : L.length ≠ 80) :
    Calls Tryd.prog 14 #[.slice A L.length cap] w (HGetPost L w) := by
  have hz := zero26
  obtain ⟨n, hn⟩ : ∃ n, n = L.length := ⟨_, rfl⟩
  have hb : Below w.heap.size w (w.alloc (.cells (hdV hd0).toArray 26)) := (Below.refl _ _).alloc (Nat.le_refl _) _
  have hB0 := Blk.new w 26 (hdV hd0).toArray
  rw [List.toList_toArray] at hB0
  have HB := Lib.hid hb
  have HB0 := Lib.hid hB0
  have HI := Lib.hid (info26 hd0_ok)
  rw [← hn] at hL hl ⊢
  have hne : ((n : Int) != 80) = true := by simp; omega
  have hp : HGetPost L w = fun e w' => e = .returned (.tuple #[.agg (hdV hd0).toArray, .int .i64 4]) ∧ Below w.heap.size w w' := by
    unfold HGetPost hgetH hgetE
    rw [if_neg (by omega), if_neg (by omega)]
  rw [hp]
  clear hb hB0 hn hp hL
  go_enter Tryd.func14, Tryd.ntmps14
  go_wp2_with ((with_reducible refine wpList_store_mid rfl 26 (.tmp 2) (.tmp 8) rfl w.heap.size 0 (hdV hd0).toArray rfl rfl (there_hd HB0.out hd0_ok hd0_ok) (info26v hd0_ok) (all_oneCell_toArray (hdV_one _)) ?_))
  have hS := HB0.out.setCells (hdV hd0) rfl
  have hbb := below_setCells (B := w.heap.size) (b := w.heap.size) (Nat.le_refl _) (hdV hd0) 0 _ HB.out
  generalize (w.alloc (.cells (hdV hd0).toArray 26)).setCells w.heap.size 0 (hdV hd0) = W9 at hS hbb
  have hlv := run_loadVar_mid (P := Tryd.prog) W9 w.heap.size 0 26 _ _ hS.range Tryd.underlying26 rfl HI.out
  exact bodyPost_ret (v := .tuple #[.agg (hdV hd0).toArray, .int .i64 4]) (by simp [results, Tryd.results14, asAddr, hlv]) rfl ⟨rfl, hbb⟩
/-- The reader stands in block g, and has X ahead of it; all that lay in W0 is as it was. -/
structure RQ (W0 : World) (g : Nat) (X : List (BitVec 8)) (w : World) : Prop where
  r : IsR w (g + 1) (some g) (some X)
  lt : g + 1 ≤ w.heap.size
  bel : Below W0.heap.size W0 w
  le : W0.heap.size ≤ g
theorem RQ.next {W0 w w' : World} {g : Nat} {X X' : List (BitVec 8)} (h : RQ W0 g X w) (hI : IsR w' (g + 1) (some g) (some X')) (hg : w.grownBy w' (some g)) : RQ W0 g X' w' :=
  ⟨hI, Nat.le_trans h.lt hg.size, h.bel.grown hg h.bel.size (fun k hk => by cases hk; exact h.le), h.le⟩
theorem RQ.num {W0 w : World} {g : Nat} {X Y : List (BitVec 8)} {z : Nat} (h : RQ W0 g X w) (hX : 4 ≤ X.length) (hz : z = lev (X.take 4)) (hY : Y = X.drop 4) : Calls Tryd.prog 24 #[ptr (some g), .int .i64 4] w fun e w' => e = .returned (.int .u64 (z : Int)) ∧ RQ W0 g Y w' := by
  subst hz hY
  exact (h.r.num4 h.lt hX).mono fun e w' ⟨h1, h2, h3⟩ => ⟨h1, h.next h2 h3⟩
theorem RQ.hash {W0 w : World} {g : Nat} {X Y P : List (BitVec 8)} (h : RQ W0 g X w) (hX : 32 ≤ X.length) (hP : P = X.take 32) (hY : Y = X.drop 32) : Calls Tryd.prog 25 #[ptr (some g)] w fun e w' => e = .returned (.agg (vbs P).toArray) ∧ RQ W0 g Y w' := by
  subst hP hY
  exact (h.r.hash h.lt hX).mono fun e w' ⟨h1, h2, h3⟩ => ⟨h1, h.next h2 h3⟩
set_option maxHeartbeats 8000000 in
theorem hget_yes (A : Option Addr) (L : List (BitVec 8)) (cap B : Nat) (w : World) (hR : Rd w B A L) (hB : B ≤ w.heap.size) (hc : A = none → cap = 0) (hL : L.length = 80) :
    Calls Tryd.prog 14 #[.slice A 80 cap] w (HGetPost L w) := by
  have hz := zero26
  have hb : Below w.heap.size w (w.alloc (.cells (hdV hd0).toArray 26)) := (Below.refl _ _).alloc (Nat.le_refl _) _
  have hB0 := Blk.new w 26 (hdV hd0).toArray
  rw [List.toList_toArray] at hB0
  have K := open_any A L cap w.heap.size (w.alloc (.cells (hdV hd0).toArray 26)) (fun hp => by obtain ⟨b, o, e, hlt, hcc⟩ := hR hp; exact ⟨b, o, e, by omega, fun j hj => by rw [hb.cell (p := ⟨b, o + j, none⟩) (by show b < _; omega)]; exact hcc j hj⟩) hb.size hc (by omega)
  rw [hL] at K
  have HK := Lib.hid K
  have HB := Lib.hid hb
  have HB0 := Lib.hid hB0
  have HL := Lib.hid hL
  have hne : ((80 : Int) != 80) = false := by decide
  have hp : HGetPost L w = fun e w' => e = .returned (.tuple #[.agg (hdV (hdOf L)).toArray, .int .i64 0]) ∧ Below w.heap.size w w' := by
    unfold HGetPost hgetH hgetE
    rw [if_pos hL, if_pos hL]
  rw [hp]
  clear hb hB0 hp hL K hR hB hc
  go_enter Tryd.func14, Tryd.ntmps14
  go_upto_region 4 with (go_at_call 23; (with_reducible refine HK.out.mono ?_); rintro e w1 ⟨g, rfl, hI, hg1, hg2, hb1⟩; have HQ0 : Hid (RQ (w.alloc (.cells (hdV hd0).toArray 26)) g L w1) := (⟨hI, hg2, hb1, hg1⟩ : RQ (w.alloc (.cells (hdV hd0).toArray 26)) g L w1); clear hI hb1 hg1 hg2; dsimp only)
  generalize hW0 : w.alloc (.cells (hdV hd0).toArray 26) = W0 at HQ0 HB HB0
  clear hW0 HK hz hne
  obtain ⟨z1, hz1⟩ : ∃ z, z = lev (L.take 4) := ⟨_, rfl⟩
  obtain ⟨X1, hX1⟩ : ∃ X, X = L.drop 4 := ⟨_, rfl⟩
  obtain ⟨P1, hP1⟩ : ∃ X, X = X1.take 32 := ⟨_, rfl⟩
  obtain ⟨X2, hX2⟩ : ∃ X, X = X1.drop 32 := ⟨_, rfl⟩
  obtain ⟨P2, hP2⟩ : ∃ X, X = X2.take 32 := ⟨_, rfl⟩
  obtain ⟨X3, hX3⟩ : ∃ X, X = X2.drop 32 := ⟨_, rfl⟩
  obtain ⟨z2, hz2⟩ : ∃ z, z = lev (X3.take 4) := ⟨_, rfl⟩
  obtain ⟨X4, hX4⟩ : ∃ X, X = X3.drop 4 := ⟨_, rfl⟩
  obtain ⟨z3, hz3⟩ : ∃ z, z = lev (X4.take 4) := ⟨_, rfl⟩
  obtain ⟨X5, hX5⟩ : ∃ X, X = X4.drop 4 := ⟨_, rfl⟩
  obtain ⟨z4, hz4⟩ : ∃ z, z = lev (X5.take 4) := ⟨_, rfl⟩
  obtain ⟨X6, hX6⟩ : ∃ X, X = X5.drop 4 := ⟨_, rfl⟩
  have l1 : X1.length = 76 := by rw [hX1, List.length_drop, HL.out]
  have l2 : X2.length = 44 := by rw [hX2, List.length_drop, l1]
  have l3 : X3.length = 12 := by rw [hX3, List.length_drop, l2]
  have l4 : X4.length = 8 := by rw [hX4, List.length_drop, l3]
  have l5 : X5.length = 4 := by rw [hX5, List.length_drop, l4]
  have q1 := HQ0.out.num (by rw [HL.out]; omega) hz1 hX1
  have K1 := Lib.hid q1
  have K2 : Hid (∀ wq, RQ W0 g X1 wq → _) := fun wq (q : RQ W0 g X1 wq) => q.hash (by omega) hP1 hX2
  have K3 : Hid (∀ wq, RQ W0 g X2 wq → _) := fun wq (q : RQ W0 g X2 wq) => q.hash (by omega) hP2 hX3
  have K4 : Hid (∀ wq, RQ W0 g X3 wq → _) := fun wq (q : RQ W0 g X3 wq) => q.num (by omega) hz2 hX4
  have K5 : Hid (∀ wq, RQ W0 g X4 wq → _) := fun wq (q : RQ W0 g X4 wq) => q.num (by omega) hz3 hX5
  have K6 : Hid (∀ wq, RQ W0 g X5 wq → _) := fun wq (q : RQ W0 g X5 wq) => q.num (by omega) hz4 hX6
  have v1 : IntKind.u32.wrap (z1 : Int) = (z1 : Int) := by have := lev4 L; rw [IntKind.wrap_u32]; omega
  have v2 : IntKind.u32.wrap (z2 : Int) = (z2 : Int) := by have := lev4 X3; rw [IntKind.wrap_u32]; omega
  have v3 : IntKind.u32.wrap (z3 : Int) = (z3 : Int) := by have := lev4 X4; rw [IntKind.wrap_u32]; omega
  have v4 : IntKind.u32.wrap (z4 : Int) = (z4 : Int) := by have := lev4 X5; rw [IntKind.wrap_u32]; omega
  have HE : Hid (hdOf L = ⟨z1, P1, P2, z2, z3, z4⟩) := show hdOf L = ⟨z1, P1, P2, z2, z3, z4⟩ by
    rw [hz1, hP1, hP2, hz2, hz3, hz4, hX5, hX4, hX3, hX2, hX1]
    simp [hdOf]
  have HP : Hid (P1.length = 32 ∧ P2.length = 32) := (⟨by rw [hP1, List.length_take]; omega, by rw [hP2, List.length_take]; omega⟩ : P1.length = 32 ∧ P2.length = 32)
  have HZ : Hid (HdOk ⟨z1, P1, P2, z2, z3, z4⟩) := (HE.out ▸ hdOf_ok HL.out : HdOk ⟨z1, P1, P2, z2, z3, z4⟩)
  clear hz1 hX1 hP1 hX2 hP2 hX3 hz2 hX4 hz3 hX5 hz4 hX6 q1 l1 l2 l3 l4 l5 HQ0
  go_wp2_with (first
    | (go_at_call 24; (with_reducible refine (K6.out _ HQ6.out).mono ?_); rintro e w7 ⟨rfl, hq7⟩; have HQ7 := Lib.hid hq7; clear hq7; dsimp only)
    | (go_at_call 24; (with_reducible refine (K5.out _ HQ5.out).mono ?_); rintro e w6 ⟨rfl, hq6⟩; have HQ6 := Lib.hid hq6; clear hq6; dsimp only)
    | (go_at_call 24; (with_reducible refine (K4.out _ HQ4.out).mono ?_); rintro e w5 ⟨rfl, hq5⟩; have HQ5 := Lib.hid hq5; clear hq5; dsimp only)
    | (go_at_call 25; (with_reducible refine (K3.out _ HQ3.out).mono ?_); rintro e w4 ⟨rfl, hq4⟩; have HQ4 := Lib.hid hq4; clear hq4; dsimp only)
    | (go_at_call 25; (with_reducible refine (K2.out _ HQ2.out).mono ?_); rintro e w3 ⟨rfl, hq3⟩; have HQ3 := Lib.hid hq3; clear hq3; dsimp only)
    | (go_at_call 24; (with_reducible refine K1.out.mono ?_); rintro e w2 ⟨rfl, hq2⟩; have HQ2 := Lib.hid hq2; clear hq2; dsimp only)
    | (with_reducible refine wpList_build26 rfl (.tmp 13) (.tmp 15) (.tmp 17) (.tmp 20) (.tmp 23) (.tmp 26) rfl z1 z2 z3 z4 P1 P2 rfl rfl rfl rfl rfl rfl HP.out.1 HP.out.2 ?_)
    | (with_reducible refine wpList_store_mid rfl 26 (.tmp 2) (.tmp 27) rfl w.heap.size 0 (hdV ⟨z1, P1, P2, z2, z3, z4⟩).toArray rfl rfl (there_hd (HB0.out.below HQ7.out.bel HB0.out.lt) hd0_ok HZ.out) (info26v HZ.out) (all_oneCell_toArray (hdV_one _)) ?_))
  have hS := (HB0.out.below HQ7.out.bel HB0.out.lt).setCells (hdV ⟨z1, P1, P2, z2, z3, z4⟩) (by rw [hdV_len HZ.out, hdV_len hd0_ok])
  have hbb := below_setCells (B := w.heap.size) (b := w.heap.size) (Nat.le_refl _) (hdV ⟨z1, P1, P2, z2, z3, z4⟩) 0 w7 (HB.out.trans (HQ7.out.bel.mono HB.out.size))
  generalize w7.setCells w.heap.size 0 (hdV ⟨z1, P1, P2, z2, z3, z4⟩) = W9 at hS hbb
  have hlv := run_loadVar_mid (P := Tryd.prog) W9 w.heap.size 0 26 _ _ hS.range Tryd.underlying26 rfl (info26 HZ.out)
  exact bodyPost_ret (v := .tuple #[.agg (hdV ⟨z1, P1, P2, z2, z3, z4⟩).toArray, .int .i64 0]) (by simp [results, Tryd.results14, asAddr, hlv]) rfl ⟨by rw [HE.out], hbb⟩
theorem hget_any (A : Option Addr) (L : List (BitVec 8)) (n cap B : Nat) (w : World) (hn : L.length = n) (hR : Rd w B A L) (hB : B ≤ w.heap.size) (hc : A = none → cap = 0) (hl : L.length ≤ 100000000) :
    Calls Tryd.prog 14 #[.slice A n cap] w (HGetPost L w) := by
  subst hn
  by_cases h : L.length = 80
  · have := hget_yes A L cap B w hR hB hc h
    rw [h]
    exact this
  · exact hget_no A L cap w hl h
end Go.Proofs.YtefiacnpbkancaaDoor
