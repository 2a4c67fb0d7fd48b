/- The law MerkleTwice returns true for every list of hashes that lies in memory. -/
import Derived.Test.YtihbmahjdmfjpaaDoorFl
import Derived.Outline
import Derived.StillTailTactics
import Derived.Lib.MinMax
namespace Go.Proofs.YtihbmahjdmfjpaaDoor
open Go.RowKit
set_option linter.unusedVariables false
set_option linter.unusedSimpArgs false
set_option maxRecDepth 100000
variable {tw : List (BitVec 8) → List (BitVec 8)}
theorem run_appM {t e s bytes : Nat} {z : Value} (ht : Tryd.prog.underlying t = some (.slice e)) (hin : (Tryd.prog.info? e).map (fun i => (i.zero, i.size, i.bytes)) = some (some z, s, bytes)) (hz : z.cells.size = s) (hs : 0 < s) (hby : bytes ≤ 100)
    {w : World} {B : Nat} {v : Value} {L : List (List (BitVec 8))} (h : OF e s w B v L) {A : Option Addr} {m c : Nat} {M : List (List (BitVec 8))} (hM : RdN s w A m c M) (hA : A = none → c = 0) (hl : L.length ≤ 1000000) (hm : m ≤ 1000000) (hB : B ≤ w.heap.size) :
    ∃ v' w', (Builtin.append_ #[t, t] t #[v, .slice A m c]).run Tryd.prog w = .ok v' w' ∧ OF e s w' B v' (L ++ M) ∧ w.grownBy w' v.ownBlock := by
  obtain ⟨i0, hi, hz0, hz1, hz2⟩ := info_parts hin
  have hf := hM.len.flat
  have e1 : (L ++ M).length = L.length + m := by rw [List.length_append, hM.num]
  have e2 : vbs (L ++ M).flatten = vbs L.flatten ++ vbs M.flatten := by simp [vbs]
  cases A with
  | some ad =>
    obtain ⟨v', w', hr, ho, hgr, _⟩ := run_append_own (P := Tryd.prog) w B t t e i0 z s bytes ht hi hz0 hz1 hz2 hz hs v L.length (vbs L.flatten) h.2 ad m c (vbs M.flatten) (by rw [vbs_len, hf, hM.num]) (fun j u hj => by
      have hj' : j < M.flatten.length := by have := (List.getElem?_eq_some_iff.1 hj).1; rwa [vbs_len] at this
      obtain ⟨b, o, ea, hlt, hc⟩ := hM.rd (by omega)
      cases ea
      rw [vbs_at hj'] at hj
      rw [Addr.add_mid, hc j hj']; exact hj) (vbs_one _) (by unfold maxLen; omega) (Nat.le_trans (Nat.mul_le_mul_left _ hby) (by omega)) hB
    exact ⟨v', w', hr, ⟨h.1.app hM.len, by rw [e1, e2]; exact ho⟩, hgr⟩
  | none =>
    have hc0 := hA rfl
    have hm0 : m = 0 := by have := hM.le; omega
    subst hc0 hm0
    have hM0 : M = [] := List.eq_nil_of_length_eq_zero hM.num
    subst hM0
    exact ⟨v, w, run_append_owned_none (P := Tryd.prog) (w := w) B t t e i0 s ht hi v L.length (vbs L.flatten) h.2, by rw [List.append_nil]; exact h, ⟨rfl, rfl, rfl, Nat.le_refl _, fun _ _ _ => rfl⟩⟩
theorem wp_appM {t e s bytes : Nat} {z : Value} (ht : Tryd.prog.underlying t = some (.slice e)) (hin : (Tryd.prog.info? e).map (fun i => (i.zero, i.size, i.bytes)) = some (some z, s, bytes)) (hz : z.cells.size = s) (hs : 0 < s) (hby : bytes ≤ 100)
    {w : World} {o : Oper} {a : Act} {K : Act → World → Prop} {Q : Exit → Act → World → Prop} (d y : Operand) (ho : o.op = .call { callee := .builtin .append, args := #[d, y], argTypes := #[t, t] }) (hty : o.type = t)
    (B : Nat) (v : Value) (L : List (List (BitVec 8))) (hd : a.eval d = v) (h : OF e s w B v L) (A : Option Addr) (m c : Nat) (M : List (List (BitVec 8))) (hy : a.eval y = .slice A m c) (hM : RdN s w A m c M) (hA : A = none → c = 0) (hl : L.length ≤ 1000000) (hm : m ≤ 1000000) (hB : B ≤ w.heap.size)
    (hk : ∀ v' w', OF e s w' B v' (L ++ M) → w.grownBy w' v.ownBlock → K (a.put o.dst v') w') : o.wp Tryd.prog a w K Q := by
  obtain ⟨v', w', hr, h2, h3⟩ := run_appM ht hin hz hs hby h hM hA hl hm hB
  rw [← hty] at hr
  unfold Oper.wp execOp
  simp only [ho, resolve, invoke, builtin, Sem.run_bind, Sem.run_pure, Result.andThen_ok, List.map_toArray, List.map_cons, List.map_nil, hd, hy]
  rw [hty] at hr ⊢
  simp only [hr]
  exact hk v' w' h2 h3
theorem wpList_appM {t e s bytes : Nat} {z : Value} (ht : Tryd.prog.underlying t = some (.slice e)) (hin : (Tryd.prog.info? e).map (fun i => (i.zero, i.size, i.bytes)) = some (some z, s, bytes)) (hz : z.cells.size = s) (hs : 0 < s) (hby : bytes ≤ 100)
    {w : World} {ops : Array Oper} {rest : List Oper} {o : Oper} {a : Act} {Q : Exit → Act → World → Prop} (hgd : o.guard = none) (d y : Operand) (ho : o.op = .call { callee := .builtin .append, args := #[d, y], argTypes := #[t, t] }) (hty : o.type = t)
    (B : Nat) (v : Value) (L : List (List (BitVec 8))) (hd : a.eval d = v) (h : OF e s w B v L) (A : Option Addr) (m c : Nat) (M : List (List (BitVec 8))) (hy : a.eval y = .slice A m c) (hM : RdN s w A m c M) (hA : A = none → c = 0) (hl : L.length ≤ 1000000) (hm : m ≤ 1000000) (hB : B ≤ w.heap.size)
    (hk : ∀ v' w', OF e s w' B v' (L ++ M) → w.grownBy w' v.ownBlock → wpList Tryd.prog ops Q rest (a.put o.dst v') w') : wpList Tryd.prog ops Q (o :: rest) a w :=
  wpList_plain hgd fun _ hK => wp_appM ht hin hz hs hby d y ho hty B v L hd h A m c M hy hM hA hl hm hB fun v' w' h1 h2 => hK _ _ (hk v' w' h1 h2)
theorem OF.empty (w : World) {B : Nat} (hB : B ≤ w.heap.size) : OF 25 32 (w.alloc (.cells #[] 25)) B (.slice (some ⟨w.heap.size, 0, none⟩) 0 0) [] :=
  ⟨(fun x hx => by cases hx), World.ownsRow_made w #[] 0 hB (by unfold maxLen; omega) rfl⟩
theorem RdN.take {s : Nat} {w : World} {A : Option Addr} {n c : Nat} {L : List (List (BitVec 8))} (h : RdN s w A n c L) (k : Nat) (hk : k ≤ n) : RdN s w A k c (L.take k) := by
  refine ⟨h.len.take k, by rw [List.length_take, h.num, Nat.min_eq_left hk], fun hp => ?_, by have := h.le; omega, h.mx⟩
  have e := flat_take h.len k
  rw [e] at hp ⊢
  rw [List.length_take] at hp
  obtain ⟨b, o, ea, hb, hc⟩ := h.rd (by omega)
  refine ⟨b, o, ea, hb, fun j hj => ?_⟩
  rw [List.length_take] at hj
  rw [hc j (by omega)]
  simp [List.getD, List.getElem?_take, show j < k * s by omega]
theorem cut_any (A : Option Addr) (n c : Nat) (hc : n ≤ c) (hm : c ≤ 9223372036854775807) (w : World) : Calls Tryd.prog 10 #[.slice A n c] w fun e w' => e = .returned (.slice A (min n 60) c) ∧ w = w' := by
  have h1 : min ((n : Nat) : Int) 60 = ((min n 60 : Nat) : Int) := by omega
  have h2 : min n 60 ≤ c := by omega
  generalize min n 60 = m at h1 h2 ⊢
  go_enter Tryd.func10, Tryd.ntmps10
  go_wp2
  go_ret
  exact ⟨rfl, rfl⟩
/-- What a list of hashes that came in has to be. -/
structure LIn (w : World) (A : Option Addr) (n c : Nat) (L : List (List (BitVec 8))) : Prop where
  r : RdN 32 w A n c L
  z : A = none → c = 0
theorem LIn.below {w w' : World} {A : Option Addr} {n c : Nat} {L : List (List (BitVec 8))} (h : LIn w A n c L) (hb : Below w.heap.size w w') : LIn w' A n c L := ⟨h.r.below hb, h.z⟩
/-- An address of one of the hashes. -/
theorem RdN.pick {s : Nat} {w : World} {A : Option Addr} {n c : Nat} {L : List (List (BitVec 8))} (h : RdN s w A n c L) (hs : 0 < s) (hp : 0 < n) : ∃ b o, A = some ⟨b, o, none⟩ ∧ b < w.heap.size ∧ ∀ k, k < n → w.rangeAt b (o + k * s) (vbs (L.getD k [])) ∧ (L.getD k []).length = s := by
  obtain ⟨b, o, e, hb, hr⟩ := h.rd.row hs h.len (j := 0) (by rw [h.num]; exact hp)
  exact ⟨b, o, e, hb, fun k hk => ⟨hr k (by rw [h.num]; exact hk), h.len.at (by rw [h.num]; exact hk)⟩⟩
set_option maxHeartbeats 4000000 in
theorem twice_walk (T : TwC tw) (hne : tw (HA ++ HA) ≠ tw (HA ++ HB)) (A : Option Addr) (n c : Nat) (L : List (List (BitVec 8))) (w : World) (hL : LIn w A n c L) (hG : Glob w) : Calls Tryd.prog 8 #[.slice A n c] w (VPost (.bool true) w) := by
  have hz := zero25
  have HCut := Lib.hid (cut_any A n c hL.r.le hL.r.mx w)
  obtain ⟨m, hm⟩ : ∃ m, m = min n 60 := ⟨_, rfl⟩
  obtain ⟨M, hM⟩ : ∃ M, M = L.take m := ⟨_, rfl⟩
  have HL : Hid (LIn w A m c M) := ⟨by rw [hM]; exact hL.r.take m (by omega), hL.z⟩
  rw [← hm] at HCut
  have hm60 : m ≤ 60 := by omega
  have HG := Lib.hid hG
  have HT := Lib.hid T
  have HW : Hid (∀ w', Glob w' → Calls Tryd.prog 17 #[] w' (VPost (.bool true) w')) := fun w' hg => works_any T hne w' hg
  clear hL hG T hne hm hM
  by_cases h2 : m < 2
  · have h2' : (m : Int) < 2 := by omega
    have HW1 := Lib.hid (HW.out w HG.out)
    clear HL
    go_enter Tryd.func8, Tryd.ntmps8
    go_wp2_with (first
      | (go_at_call 10; (with_reducible refine HCut.out.mono ?_); rintro e w' ⟨rfl, rfl⟩; dsimp only)
      | (go_at_call 17; (with_reducible refine HW1.out.mono ?_); rintro e w1 ⟨rfl, hb⟩; have HB := Lib.hid hb; clear hb; dsimp only))
    go_ret
    exact ⟨rfl, HB.out⟩
  have h2' : ¬ (m : Int) < 2 := by omega
  have HC1 := Lib.hid (root_any HT.out A m c M w HL.out.r HG.out (by omega))
  obtain ⟨R, hR⟩ : ∃ R, R = rootT tw M := ⟨_, rfl⟩
  obtain ⟨q, hq⟩ : ∃ q, q = mutT tw M := ⟨_, rfl⟩
  have HR := Lib.hid hR
  unfold RootPost at HC1
  rw [← hR, ← hq] at HC1
  clear hR hq
  go_enter Tryd.func8, Tryd.ntmps8
  go_upto_region 6 with (first
    | (go_at_call 10; (with_reducible refine HCut.out.mono ?_); rintro e w' ⟨rfl, rfl⟩; dsimp only)
    | (go_at_call 11; (with_reducible refine HC1.out.mono ?_); rintro e w1 ⟨rfl, hRl, hb⟩; have HRl := Lib.hid hRl; have KT := Lib.hid ((HBx.new w1 Z32 rfl).kt hRl); have IR := Lib.hid (i25a hRl); have HB1 := Lib.hid hb; clear hb hRl HC1; dsimp only)
    | ((with_reducible show wpList _ _ _ ((⟨none, _, _, _, _, _⟩ : Oper) :: _) _ _); with_reducible refine wpList_store_mid rfl 25 (.tmp 4) (.tmp 19) rfl w1.heap.size 0 (vbs R).toArray rfl rfl KT.out IR.out (all_oneCell_toArray (vbs_one _)) ?_))
  have bA : Below w.heap.size w ((w1.alloc (.cells (vbs Z32).toArray 25)).setCells w1.heap.size 0 (vbs R)) := HB1.out.trans ((below_laidT w1 25 Z32 R).mono HB1.out.size)
  have B4 := Lib.hid (HBx.laid w1 HRl.out)
  generalize ((w1.alloc (.cells (vbs Z32).toArray 25)).setCells w1.heap.size 0 (vbs R)) = W2 at bA B4 ⊢
  generalize w1.heap.size = g4 at B4 ⊢
  have BW := Lib.hid bA
  have HL2 := Lib.hid (HL.out.below bA)
  clear bA KT HB1 IR HL HCut
  have hsz := BW.out.size
  have bE := (Below.refl W2.heap.size W2).alloc (Nat.le_refl _) (.cells #[] 25)
  have HE := Lib.hid (OF.empty W2 (Nat.le_refl _))
  have HLE := Lib.hid (HL2.out.below bE)
  have HBE := Lib.hid bE
  clear bE
  go_upto_region 7 with ((with_reducible show wpList _ _ _ ((⟨some 23, _, _, _, _, _⟩ : Oper) :: _) _ _); refine wpList_appM Tryd.underlying22 info25f rfl (by omega) (by omega) rfl (.tmp 21) (.tmp 22) rfl rfl W2.heap.size _ [] rfl HE.out A m c M rfl HLE.out.r HLE.out.z (by simp) (by omega) HBE.out.size ?_; intro v6 W3 ho3 hg3; have HO3 := Lib.hid (show OF 25 32 W3 W2.heap.size v6 M from ho3); have HB3 := Lib.hid (HBE.out.grown hg3 HBE.out.size (fun k e => by cases e; exact Nat.le_refl _)); clear ho3 hg3)
  have HMl : Hid (M.length = m) := HL2.out.r.num
  have B43 := Lib.hid (B4.out.below HB3.out)
  have BW3 := Lib.hid (BW.out.trans (HB3.out.mono hsz))
  have HL3 := Lib.hid (HL2.out.below HB3.out)
  have hsz3 := HB3.out.size
  clear HE HLE HBE HL2
  obtain ⟨b, o, rfl, hb, hpk⟩ := HL3.out.r.pick (by omega) (by omega)
  by_cases ho : m % 2 = 1
  · have ho' : (m : Int) % 2 = 1 := by omega
    obtain ⟨r, hr⟩ : ∃ r, r = m - 1 := ⟨_, rfl⟩
    have hri : (m : Int) - 1 = (r : Int) := by omega
    have hrm : r < m := by omega
    obtain ⟨X, hX⟩ : ∃ X, X = M.getD r [] := ⟨_, rfl⟩
    have RX := Lib.hid (hpk r hrm).1
    have hX32 : X.length = 32 := by rw [hX]; exact (hpk r hrm).2
    rw [← hX] at RX
    have HX := Lib.hid (show X = M.getD (M.length - 1) [] by rw [hX, hr, HMl.out])
    have HXl := Lib.hid hX32
    have IX := Lib.hid (i25' (vs := vbs X) (by rw [vbs_len]; exact hX32))
    have HOdd := Lib.hid ho
    clear hX hX32 hr hpk ho
    go_upto_region 12 with (first
      | ((with_reducible show wpList _ _ _ ((⟨some 32, _, _, _, _, _⟩ : Oper) :: _) _ _); with_reducible refine wpList_load_mid rfl 25 (.tmp 31) rfl b (o + r * 32) rfl (vbs X) _ RX.out Tryd.underlying25 rfl IX.out ?_)
      | ((with_reducible show wpList _ _ _ ((⟨some 33, _, _, _, _, _⟩ : Oper) :: _) _ _); refine wpList_rows rfl 22 25 32 (by omega) #[(0, .tmp 32)] [X] (.one HXl.out) (by simp) (by simp) rfl Tryd.underlying22 info25 z25 (by rfl) ?_; have g4' := Blk.new W3 25 (vbs [X].flatten).toArray; have b4 := (Below.refl W3.heap.size W3).alloc (Nat.le_refl _) (.cells (vbs [X].flatten).toArray 25); have HO4 := Lib.hid (HO3.out.below b4); have HB4 := Lib.hid b4; have hs4 := b4.size; generalize (W3.alloc (.cells (vbs [X].flatten).toArray 25)) = W4 at g4' b4 HO4 HB4 hs4 ⊢; have HG4 := Lib.hid (show Blk W4 W3.heap.size 25 (vbs X) by simpa using g4'); clear g4' b4)
      | ((with_reducible show wpList _ _ _ ((⟨some 34, _, _, _, _, _⟩ : Oper) :: _) _ _); refine wpList_appF Tryd.underlying22 info25f rfl (by omega) (by omega) rfl (.tmp 27) (.tmp 33) rfl rfl W2.heap.size v6 M rfl HO4.out W3.heap.size 25 1 X rfl HXl.out HG4.out (by rw [HMl.out]; omega) (by omega) ?_; intro v5 W5 ho5 hg5; have HO5 := Lib.hid ho5; have HB5 := Lib.hid ((HB3.out.trans (HB4.out.mono hsz3)).grown hg5 (Nat.le_trans hsz3 hs4) (fun g e => (HO4.out.lt e).2.1)); clear ho5 hg5))
    have BW5 := Lib.hid (BW.out.trans (HB5.out.mono hsz))
    have B45 := Lib.hid (B4.out.below HB5.out)
    have hT := twice_odd (tw := tw) (L := M) (by rw [HMl.out]; exact h2) (by rw [HMl.out]; exact HOdd.out)
    rw [← HX.out] at hT
    obtain ⟨A5, c5, e5, hr5⟩ := HO5.out.rdN
    subst e5
    have HC5 := Lib.hid (root_any HT.out A5 _ c5 _ W5 hr5 (HG.out.below BW5.out) (by rw [List.length_append, HMl.out]; simp; omega))
    unfold RootPost at HC5
    rw [hT.1, hT.2, ← HR.out] at HC5
    obtain ⟨n5, hn5⟩ : ∃ n5, n5 = (M ++ [X]).length := ⟨_, rfl⟩
    have KT0 : Hid (∀ w5 : World, (w5.alloc (.cells (vbs Z32).toArray 25)).there w5.heap.size 0 (vbs R).toArray.size) := fun w5 => (HBx.new w5 Z32 rfl).kt HRl.out
    have IR := Lib.hid (i25a HRl.out)
    have heq := eql25 R R HRl.out HRl.out
    rw [show decide (R = R) = true from by simp] at heq
    rw [← hn5] at HC5 ⊢
    have HW5 := Lib.hid (HW.out)
    clear hr5 hn5
    go_upto_region 13 with (first
      | (go_at_call 11; (with_reducible refine HC5.out.mono ?_); rintro e w6 ⟨rfl, _, hb⟩; have KT := Lib.hid (KT0.out w6); have HB6 := Lib.hid hb; clear hb HC5; dsimp only)
      | ((with_reducible show wpList _ _ _ ((⟨none, _, _, _, _, _⟩ : Oper) :: _) _ _); with_reducible refine wpList_store_mid rfl 25 (.tmp 7) (.tmp 59) rfl w6.heap.size 0 (vbs R).toArray rfl rfl KT.out IR.out (all_oneCell_toArray (vbs_one _)) ?_))
    have bT : Below W5.heap.size W5 ((w6.alloc (.cells (vbs Z32).toArray 25)).setCells w6.heap.size 0 (vbs R)) := HB6.out.trans ((below_laidT w6 25 Z32 R).mono HB6.out.size)
    have C4 := Lib.hid (B45.out.below bT)
    have C7 := Lib.hid (HBx.laid w6 HRl.out)
    have BW7 := Lib.hid (BW5.out.trans (bT.mono BW5.out.size))
    generalize ((w6.alloc (.cells (vbs Z32).toArray 25)).setCells w6.heap.size 0 (vbs R)) = W7 at bT C4 C7 BW7 ⊢
    generalize w6.heap.size = g7 at C7 ⊢
    have HW7 := Lib.hid (HW5.out W7 (HG.out.below BW7.out))
    have R4 := Lib.hid C4.out.1.range
    have R7 := Lib.hid C7.out.1.range
    have I4 := Lib.hid C4.out.inf
    clear bT KT HB6
    go_wp2_with (first
      | ((with_reducible show wpList _ _ _ ((⟨some 61, _, _, _, _, _⟩ : Oper) :: _) _ _); with_reducible refine wpList_load_mid rfl 25 (.tmp 4) rfl g4 0 rfl (vbs R) _ R4.out Tryd.underlying25 rfl I4.out ?_)
      | ((with_reducible show wpList _ _ _ ((⟨some 62, _, _, _, _, _⟩ : Oper) :: _) _ _); with_reducible refine wpList_load_mid rfl 25 (.tmp 7) rfl g7 0 rfl (vbs R) _ R7.out Tryd.underlying25 rfl I4.out ?_)
      | (go_at_call 17; (with_reducible refine HW7.out.mono ?_); rintro e w8 ⟨rfl, hb⟩; have HB8 := Lib.hid hb; clear hb; dsimp only))
    go_ret
    exact ⟨rfl, BW7.out.trans (HB8.out.mono BW7.out.size)⟩
  · have ho' : ¬ (m : Int) % 2 = 1 := by omega
    by_cases h4 : m % 4 = 2 ∧ 2 < m
    · obtain ⟨h4a, h4b⟩ := h4
      have h4a' : (m : Int) % 4 = 2 := by omega
      have h4b' : (2 : Int) < (m : Int) := by omega
      obtain ⟨p, hp⟩ : ∃ p, p = m - 2 := ⟨_, rfl⟩
      obtain ⟨r, hr⟩ : ∃ r, r = m - 1 := ⟨_, rfl⟩
      have hpi : (m : Int) - 2 = (p : Int) := by omega
      have hri : (m : Int) - 1 = (r : Int) := by omega
      have hpm : p < m := by omega
      have hrm : r < m := by omega
      obtain ⟨X, hX⟩ : ∃ X, X = M.getD p [] := ⟨_, rfl⟩
      obtain ⟨Y, hY⟩ : ∃ Y, Y = M.getD r [] := ⟨_, rfl⟩
      have rX := (hpk p hpm).1
      have rY := (hpk r hrm).1
      have hX32 : X.length = 32 := by rw [hX]; exact (hpk p hpm).2
      have hY32 : Y.length = 32 := by rw [hY]; exact (hpk r hrm).2
      rw [← hX] at rX
      rw [← hY] at rY
      have HX := Lib.hid (show X = M.getD (M.length - 2) [] by rw [hX, hp, HMl.out])
      have HY := Lib.hid (show Y = M.getD (M.length - 1) [] by rw [hY, hr, HMl.out])
      have HXl := Lib.hid (hne_len hX32 hY32)
      have IX := Lib.hid (i25' (vs := vbs X) (by rw [vbs_len]; exact hX32))
      have IY := Lib.hid (i25' (vs := vbs Y) (by rw [vbs_len]; exact hY32))
      have HS0 : Hid (SRe b (o + p * 32) (o + r * 32) X Y W3) := ⟨rX, rY⟩
      have HEv := Lib.hid h4a
      have HEw := Lib.hid (show ¬ m < 3 by omega)
      clear hX hX32 hY hY32 rX rY hr hp hpk h4a h4b ho
      go_upto_region 10 with fail
      refine wp_calm ?_
      refine wp_region_to (z := 12) (SRe b (o + p * 32) (o + r * 32) X Y) (by kernel_rfl) ?_
      have hS : (SRe b (o + p * 32) (o + r * 32) X Y) W3.drew := HS0.out
      refine AnyTo.take (i := 0) (v := ?_) rfl (by kernel_rfl) (by kernel_rfl) (by kernel_rfl) (by kernel_rfl) (by kernel_rfl) (fun _ _ _ h => h) (Or.inl ⟨by rfl, ?_⟩) hS ?_
      rotate_left
      · (intro wq hq; go_simp; try with_reducible rfl)
      try simp only [Act.put, List.setIfInBounds_toArray, List.set_cons_zero, List.set_cons_succ, List.getElem_toArray, List.getElem_cons_zero, List.getElem_cons_succ]
      refine AnyTo.take (i := 1) (v := ?_) rfl (by kernel_rfl) (by kernel_rfl) (by kernel_rfl) (by kernel_rfl) (by kernel_rfl) (fun _ _ _ h => h) (Or.inl ⟨by rfl, ?_⟩) hS ?_
      rotate_left
      · (intro wq hq; go_simp; try with_reducible rfl)
      try simp only [Act.put, List.setIfInBounds_toArray, List.set_cons_zero, List.set_cons_succ, List.getElem_toArray, List.getElem_cons_zero, List.getElem_cons_succ]
      refine AnyTo.take (i := 2) (v := ?_) rfl (by kernel_rfl) (by kernel_rfl) (by kernel_rfl) (by kernel_rfl) (by kernel_rfl) (fun _ _ _ h => h) (Or.inl ⟨by rfl, ?_⟩) hS ?_
      rotate_left
      · (intro wq hq; go_simp; try with_reducible rfl)
      try simp only [Act.put, List.setIfInBounds_toArray, List.set_cons_zero, List.set_cons_succ, List.getElem_toArray, List.getElem_cons_zero, List.getElem_cons_succ]
      refine AnyTo.take (i := 3) (v := .int .i64 (p : Int)) rfl (by kernel_rfl) (by kernel_rfl) (by kernel_rfl) (by kernel_rfl) (by kernel_rfl) (fun _ _ _ h => h) (Or.inl ⟨by rfl, ?_⟩) hS ?_
      · (intro wq hq; go_simp; try exact IntWalk.i64_in _ (by omega))
      try simp only [Act.put, List.setIfInBounds_toArray, List.set_cons_zero, List.set_cons_succ, List.getElem_toArray, List.getElem_cons_zero, List.getElem_cons_succ]
      refine AnyTo.take (i := 4) (v := .pointer (some ⟨b, o + p * 32, none⟩)) rfl (by kernel_rfl) (by kernel_rfl) (by kernel_rfl) (by kernel_rfl) (by kernel_rfl) (fun _ _ _ h => h) (Or.inl ⟨by rfl, ?_⟩) hS ?_
      · (intro wq hq; go_simp)
      try simp only [Act.put, List.setIfInBounds_toArray, List.set_cons_zero, List.set_cons_succ, List.getElem_toArray, List.getElem_cons_zero, List.getElem_cons_succ]
      refine AnyTo.take (i := 5) (v := .agg (vbs X).toArray) rfl (by kernel_rfl) (by kernel_rfl) (by kernel_rfl) (by kernel_rfl) (by kernel_rfl) (fun _ _ _ h => h) ?_ hS ?_
      · exact yieldsIf_load_mid (by rfl) 25 (.tmp 46) rfl (b) (o + p * 32) rfl (vbs X) _ (fun _ h => h.1) Tryd.underlying25 rfl IX.out
      try simp only [Act.put, List.setIfInBounds_toArray, List.set_cons_zero, List.set_cons_succ, List.getElem_toArray, List.getElem_cons_zero, List.getElem_cons_succ]
      refine AnyTo.take (i := 6) (v := ?_) rfl (by kernel_rfl) (by kernel_rfl) (by kernel_rfl) (by kernel_rfl) (by kernel_rfl) (fun _ _ _ h => h) (Or.inl ⟨by rfl, ?_⟩) hS ?_
      rotate_left
      · (intro wq hq; go_simp; try with_reducible rfl)
      try simp only [Act.put, List.setIfInBounds_toArray, List.set_cons_zero, List.set_cons_succ, List.getElem_toArray, List.getElem_cons_zero, List.getElem_cons_succ]
      refine AnyTo.take (i := 7) (v := ?_) rfl (by kernel_rfl) (by kernel_rfl) (by kernel_rfl) (by kernel_rfl) (by kernel_rfl) (fun _ _ _ h => h) (Or.inl ⟨by rfl, ?_⟩) hS ?_
      rotate_left
      · (intro wq hq; go_simp; try with_reducible rfl)
      try simp only [Act.put, List.setIfInBounds_toArray, List.set_cons_zero, List.set_cons_succ, List.getElem_toArray, List.getElem_cons_zero, List.getElem_cons_succ]
      refine AnyTo.take (i := 8) (v := .int .i64 (r : Int)) rfl (by kernel_rfl) (by kernel_rfl) (by kernel_rfl) (by kernel_rfl) (by kernel_rfl) (fun _ _ _ h => h) (Or.inl ⟨by rfl, ?_⟩) hS ?_
      · (intro wq hq; go_simp; try exact IntWalk.i64_in _ (by omega))
      try simp only [Act.put, List.setIfInBounds_toArray, List.set_cons_zero, List.set_cons_succ, List.getElem_toArray, List.getElem_cons_zero, List.getElem_cons_succ]
      refine AnyTo.take (i := 9) (v := .pointer (some ⟨b, o + r * 32, none⟩)) rfl (by kernel_rfl) (by kernel_rfl) (by kernel_rfl) (by kernel_rfl) (by kernel_rfl) (fun _ _ _ h => h) (Or.inl ⟨by rfl, ?_⟩) hS ?_
      · (intro wq hq; go_simp)
      try simp only [Act.put, List.setIfInBounds_toArray, List.set_cons_zero, List.set_cons_succ, List.getElem_toArray, List.getElem_cons_zero, List.getElem_cons_succ]
      refine AnyTo.take (i := 10) (v := .agg (vbs Y).toArray) rfl (by kernel_rfl) (by kernel_rfl) (by kernel_rfl) (by kernel_rfl) (by kernel_rfl) (fun _ _ _ h => h) ?_ hS ?_
      · exact yieldsIf_load_mid (by rfl) 25 (.tmp 51) rfl (b) (o + r * 32) rfl (vbs Y) _ (fun _ h => h.2) Tryd.underlying25 rfl IY.out
      try simp only [Act.put, List.setIfInBounds_toArray, List.set_cons_zero, List.set_cons_succ, List.getElem_toArray, List.getElem_cons_zero, List.getElem_cons_succ]
      refine AnyTo.gone (i := 11) (by kernel_rfl) rfl (by rfl) (fun K hK => ?_)
      refine wp_rows 22 25 32 (by omega) #[(0, .tmp 47), (1, .tmp 52)] [X, Y] HXl.out (by simp) (by simp) rfl Tryd.underlying22 info25 z25 (by rfl) ?_
      have b4 : Below W3.heap.size W3 (W3.drew.alloc (.cells (vbs [X, Y].flatten).toArray 25)) := (Below.refl _ _).drew.alloc (Nat.le_refl _) _
      have g4' : Blk (W3.drew.alloc (.cells (vbs [X, Y].flatten).toArray 25)) W3.heap.size 25 (vbs [X, Y].flatten) := Blk.new W3.drew 25 (vbs [X, Y].flatten).toArray
      have hS4 : SRe b (o + p * 32) (o + r * 32) X Y (W3.drew.alloc (.cells (vbs [X, Y].flatten).toArray 25)) := ⟨fun j u hj => (b4.cell (p := ⟨b, o + p * 32 + j, none⟩) hb).trans (HS0.out.1 j u hj), fun j u hj => (b4.cell (p := ⟨b, o + r * 32 + j, none⟩) hb).trans (HS0.out.2 j u hj)⟩
      have HO4 := Lib.hid (HO3.out.below b4)
      have hs4 := b4.size
      generalize hgW : (W3.drew.alloc (.cells (vbs [X, Y].flatten).toArray 25)) = W4 at b4 g4' hS4 HO4 hs4 ⊢
      have e0 : W3.drew.heap.size = W3.heap.size := rfl
      rw [e0]
      generalize W3.heap.size = g9 at g4' ⊢
      have HB4 := Lib.hid (HB3.out.trans (b4.mono hsz3))
      have HG4 := Lib.hid (rdN_blk HXl.out rfl g4' (by simp))
      clear hgW e0 b4 g4'
      refine hK _ _ (fun _ => hS4) ?_
      clear hK K
      try simp only [Act.put, List.setIfInBounds_toArray, List.set_cons_zero, List.set_cons_succ, List.getElem_toArray, List.getElem_cons_zero, List.getElem_cons_succ]
      refine AnyTo.gone (i := 12) (by kernel_rfl) rfl (by rfl) (fun K hK => ?_)
      refine wp_appM Tryd.underlying22 info25f rfl (by omega) (by omega) (.tmp 42) (.tmp 53) rfl rfl W2.heap.size v6 M rfl HO4.out (some ⟨g9, 0, none⟩) 2 2 [X, Y] rfl HG4.out (fun h => by cases h) (by rw [HMl.out]; omega) (by omega) HB4.out.size ?_
      intro v5 W5 ho5 hg5
      have HO5 := Lib.hid ho5
      have HB5 := Lib.hid (HB4.out.grown hg5 HB4.out.size (fun g e => (HO4.out.lt e).2.1))
      clear ho5 hg5 hS hS4
      refine hK _ _ (fun h => absurd h (by decide)) ?_
      clear hK K
      try simp only [Act.put, List.setIfInBounds_toArray, List.set_cons_zero, List.set_cons_succ, List.getElem_toArray, List.getElem_cons_zero, List.getElem_cons_succ]
      refine AnyTo.gone (i := 13) (by kernel_rfl) rfl (by rfl) (fun K hK => ?_)
      go_simp
      refine hK _ _ (fun h => absurd h (by decide)) ?_
      clear hK K
      try simp only [Act.put, List.setIfInBounds_toArray, List.set_cons_zero, List.set_cons_succ, List.getElem_toArray, List.getElem_cons_zero, List.getElem_cons_succ]
      refine AnyTo.done (by kernel_rfl) ?_ _
      try dsimp only [Exit.then]
      have BW5 := Lib.hid (BW.out.trans (HB5.out.mono hsz))
      have B45 := Lib.hid (B4.out.below HB5.out)
      have hT := twice_even (tw := tw) (L := M) (by rw [HMl.out]; exact HEw.out) (by rw [HMl.out]; exact HEv.out)
      rw [← HX.out, ← HY.out] at hT
      go_upto_region 12 with fail
      obtain ⟨A5, c5, e5, hr5⟩ := HO5.out.rdN
      subst e5
      have HC5 := Lib.hid (root_any HT.out A5 _ c5 _ W5 hr5 (HG.out.below BW5.out) (by rw [List.length_append, HMl.out]; simp; omega))
      unfold RootPost at HC5
      rw [hT.1, hT.2, ← HR.out] at HC5
      obtain ⟨n5, hn5⟩ : ∃ n5, n5 = (M ++ [X, Y]).length := ⟨_, rfl⟩
      have KT0 : Hid (∀ w5 : World, (w5.alloc (.cells (vbs Z32).toArray 25)).there w5.heap.size 0 (vbs R).toArray.size) := fun w5 => (HBx.new w5 Z32 rfl).kt HRl.out
      have IR := Lib.hid (i25a HRl.out)
      have heq := eql25 R R HRl.out HRl.out
      rw [show decide (R = R) = true from by simp] at heq
      rw [← hn5] at HC5 ⊢
      have HW5 := Lib.hid (HW.out)
      clear hr5 hn5
      go_upto_region 13 with (first
        | (go_at_call 11; (with_reducible refine HC5.out.mono ?_); rintro e w6 ⟨rfl, _, hb⟩; have KT := Lib.hid (KT0.out w6); have HB6 := Lib.hid hb; clear hb HC5; dsimp only)
        | ((with_reducible show wpList _ _ _ ((⟨none, _, _, _, _, _⟩ : Oper) :: _) _ _); with_reducible refine wpList_store_mid rfl 25 (.tmp 7) (.tmp 59) rfl w6.heap.size 0 (vbs R).toArray rfl rfl KT.out IR.out (all_oneCell_toArray (vbs_one _)) ?_))
      have bT : Below W5.heap.size W5 ((w6.alloc (.cells (vbs Z32).toArray 25)).setCells w6.heap.size 0 (vbs R)) := HB6.out.trans ((below_laidT w6 25 Z32 R).mono HB6.out.size)
      have C4 := Lib.hid (B45.out.below bT)
      have C7 := Lib.hid (HBx.laid w6 HRl.out)
      have BW7 := Lib.hid (BW5.out.trans (bT.mono BW5.out.size))
      generalize ((w6.alloc (.cells (vbs Z32).toArray 25)).setCells w6.heap.size 0 (vbs R)) = W7 at bT C4 C7 BW7 ⊢
      generalize w6.heap.size = g7 at C7 ⊢
      have HW7 := Lib.hid (HW5.out W7 (HG.out.below BW7.out))
      have R4 := Lib.hid C4.out.1.range
      have R7 := Lib.hid C7.out.1.range
      have I4 := Lib.hid C4.out.inf
      clear bT KT HB6
      go_wp2_with (first
        | ((with_reducible show wpList _ _ _ ((⟨some 61, _, _, _, _, _⟩ : Oper) :: _) _ _); with_reducible refine wpList_load_mid rfl 25 (.tmp 4) rfl g4 0 rfl (vbs R) _ R4.out Tryd.underlying25 rfl I4.out ?_)
        | ((with_reducible show wpList _ _ _ ((⟨some 62, _, _, _, _, _⟩ : Oper) :: _) _ _); with_reducible refine wpList_load_mid rfl 25 (.tmp 7) rfl g7 0 rfl (vbs R) _ R7.out Tryd.underlying25 rfl I4.out ?_)
        | (go_at_call 17; (with_reducible refine HW7.out.mono ?_); rintro e w8 ⟨rfl, hb⟩; have HB8 := Lib.hid hb; clear hb; dsimp only))
      go_ret
      exact ⟨rfl, BW7.out.trans (HB8.out.mono BW7.out.size)⟩
    · have HW3 := Lib.hid (HW.out W3 (HG.out.below BW3.out))
      by_cases h4a : m % 4 = 2
      · have h4b : ¬ 2 < m := fun h => h4 ⟨h4a, h⟩
        have h4a' : (m : Int) % 4 = 2 := by omega
        have h4b' : ¬ (2 : Int) < (m : Int) := by omega
        clear hpk h4 h4a h4b ho
        go_wp2_with (go_at_call 17; (with_reducible refine HW3.out.mono ?_); rintro e w8 ⟨rfl, hb⟩; have HB8 := Lib.hid hb; clear hb; dsimp only)
        go_ret
        exact ⟨rfl, BW3.out.trans (HB8.out.mono BW3.out.size)⟩
      · have h4a' : ¬ (m : Int) % 4 = 2 := by omega
        clear hpk h4 h4a ho
        go_wp2_with (go_at_call 17; (with_reducible refine HW3.out.mono ?_); rintro e w8 ⟨rfl, hb⟩; have HB8 := Lib.hid hb; clear hb; dsimp only)
        go_ret
        exact ⟨rfl, BW3.out.trans (HB8.out.mono BW3.out.size)⟩
end Go.Proofs.YtihbmahjdmfjpaaDoor
