/- What the law package's near and folded return. -/
import Derived.Test.YtihbmahjdmfjpaaDoorFw
import Derived.Test.YtihbmahjdmfjpaaDoorFt
import Derived.Test.YtihbmahjdmfjpaaDoorXh
import Derived.Outline
import Derived.StillTailTactics
namespace Go.Proofs.YtihbmahjdmfjpaaDoor
open Go.RowKit
set_option linter.unusedVariables false
set_option linter.unusedSimpArgs false
set_option maxRecDepth 100000
variable {tw : List (BitVec 8) → List (BitVec 8)}
theorem OB.same {w w' : World} {B : Nat} {v : Value} {L : List (BitVec 8)} (h : OB w B v L) (hk : ∀ (b : Nat) (cs : Array Value) (m : Nat × Nat), w.heap[b]? = some (.cells cs 5 m) → w'.heap[b]? = some (.cells cs 5 m)) : OB w' B v L := by
  refine ⟨h.1, ?_⟩
  rcases h.2 with hn | ⟨g, cap, cur, rfl, hb, hg, r⟩
  · exact .inl hn
  · exact .inr ⟨g, cap, cur, rfl, hb, hk _ _ _ hg, r⟩
theorem OB.base {w : World} {B B' : Nat} {v : Value} {L : List (BitVec 8)} (h : OB w B v L) (hB : B' ≤ B) : OB w B' v L := by
  refine ⟨h.1, ?_⟩
  rcases h.2 with hn | ⟨g, cap, cur, e, hb, r⟩
  · exact .inl hn
  · exact .inr ⟨g, cap, cur, e, Nat.le_trans hB hb, r⟩
/-- A row of slices of the call's own, each of a text in a row of its own. -/
def OW (w : World) (B : Nat) (v : Value) (Ts : List (List (BitVec 8))) : Prop :=
  LenN 64 Ts ∧ ∃ ss : List Value, ss.length = Ts.length ∧ w.ownsRow B 54 1 v Ts.length ss ∧ ∀ j, j < Ts.length → OB w B (ss.getD j undef) (Ts.getD j [])
theorem OW.nil (w : World) (B : Nat) : OW w B (.slice none 0 0) [] := ⟨(fun x hx => by cases hx), [], rfl, World.ownsRow_nil w B 54 1, fun j hj => absurd hj (Nat.not_lt_zero j)⟩
theorem OW.lt {w : World} {B : Nat} {v : Value} {Ts : List (List (BitVec 8))} (h : OW w B v Ts) {g : Nat} (hg : v.ownBlock = some g) : g < w.heap.size ∧ B ≤ g ∧ ∃ cur m, w.heap[g]? = some (.cells cur 54 m) := by
  obtain ⟨_, gs, _, ho, _⟩ := h
  rcases ho.2 with ⟨rfl, _⟩ | ⟨g', cap, cur, rfl, hb, hg', r⟩
  · cases hg
  · cases hg
    exact ⟨(Array.getElem?_eq_some_iff.1 hg').1, hb, cur, _, hg'⟩
theorem OW.same {w w' : World} {B : Nat} {v : Value} {Ts : List (List (BitVec 8))} (h : OW w B v Ts) (hk : ∀ (b : Nat) (cs : Array Value) (T : TypeId) (m : Nat × Nat), w.heap[b]? = some (.cells cs T m) → T = 54 ∨ T = 5 → w'.heap[b]? = some (.cells cs T m)) : OW w' B v Ts := by
  obtain ⟨h1, gs, hl, ho, hb⟩ := h
  refine ⟨h1, gs, hl, ⟨ho.1, ?_⟩, fun j hj => (hb j hj).same fun b cs m hc => hk _ _ _ _ hc (.inr rfl)⟩
  rcases ho.2 with hn | ⟨g, cap, cur, rfl, hbb, hg, r⟩
  · exact .inl hn
  · exact .inr ⟨g, cap, cur, rfl, hbb, hk _ _ _ _ hg (.inl rfl), r⟩
theorem OW.below {w w' : World} {B : Nat} {v : Value} {Ts : List (List (BitVec 8))} (h : OW w B v Ts) (hb : Below w.heap.size w w') : OW w' B v Ts :=
  h.same fun b cs T m hc _ => (hb.block b (Array.getElem?_eq_some_iff.1 hc).1).trans hc
theorem OW.other {w : World} {B g : Nat} {v : Value} {Ts : List (List (BitVec 8))} {vs us : List Value} (h : OW w B v Ts) (hg : Blk w g 25 vs) : OW (w.setCells g 0 us) B v Ts :=
  h.same fun b cs T m hc hT => by
    rw [heap_setCells g us 0 b (fun e => ?_)]
    · exact hc
    · subst e
      rw [show w.heap[b]? = _ from hg] at hc
      cases hc
      rcases hT with h | h <;> cases h
theorem OW.form {w : World} {B : Nat} {v : Value} {Ts : List (List (BitVec 8))} (h : OW w B v Ts) : ∃ A c, v = .slice A Ts.length c := by
  obtain ⟨_, gs, _, ho, _⟩ := h
  rcases ho.2 with ⟨rfl, h0⟩ | ⟨g, cap, cur, rfl, _⟩
  · exact ⟨none, 0, by rw [h0]⟩
  · exact ⟨_, _, rfl⟩
theorem run_appW {w : World} {B : Nat} {v : Value} {Ts : List (List (BitVec 8))} (h : OW w B v Ts) {g : Nat} {x : List (BitVec 8)} {A : Option Addr} {m c' : Nat} (hx : x.length = 64) (hg : Blk w g 54 [.slice A m c']) (hgt : OB w B (.slice A m c') x) (hl : Ts.length ≤ 1000000) (hB : B ≤ w.heap.size) {c : Nat} :
    ∃ v' w', (Builtin.append_ #[29, 29] 29 #[v, .slice (some ⟨g, 0, none⟩) 1 c]).run Tryd.prog w = .ok v' w' ∧ OW w' B v' (Ts ++ [x]) ∧ w.grownBy w' v.ownBlock := by
  have hlt := fun g => h.lt (g := g)
  obtain ⟨h1, gs, hgl, ho, hb⟩ := h
  obtain ⟨i0, hi, hz0, hz1, hz2⟩ := info_parts info54
  obtain ⟨v', w', hr, ho', hgr, _⟩ := run_append_own (P := Tryd.prog) w B 29 29 54 i0 (.slice none 0 0) 1 24 Tryd.underlying29 hi hz0 hz1 hz2 rfl (by omega) v Ts.length _ ho ⟨g, 0, none⟩ 1 c [.slice A m c'] (by simp) (fun j u hj => by rw [Addr.add_mid, Nat.zero_add]; exact hg.cell hj) (by intro u hu; simp at hu; subst hu; rfl) (by unfold maxLen; omega) (by omega) hB
  have keep : ∀ (b : Nat) (cs : Array Value) (m : Nat × Nat), w.heap[b]? = some (.cells cs 5 m) → w'.heap[b]? = some (.cells cs 5 m) := fun b cs m hbk => (hgr.block b (Array.getElem?_eq_some_iff.1 hbk).1 (fun e => by
    obtain ⟨_, _, cur, m', hc⟩ := hlt b e.symm
    rw [hbk] at hc; cases hc)).trans hbk
  refine ⟨v', w', hr, ⟨h1.app (.one hx), gs ++ [.slice A m c'], by simp [hgl], ?_, fun j hj => ?_⟩, hgr⟩
  · have e1 : (Ts ++ [x]).length = Ts.length + 1 := by simp
    rw [e1]
    exact ho'
  · rw [List.length_append, List.length_singleton] at hj
    rcases Nat.lt_or_ge j Ts.length with h | h
    · have e1 : (gs ++ [Value.slice A m c']).getD j undef = gs.getD j undef := by simp [List.getD, List.getElem?_append_left (show j < gs.length by omega)]
      have e2 : (Ts ++ [x]).getD j [] = Ts.getD j [] := by simp [List.getD, List.getElem?_append_left h]
      rw [e1, e2]
      exact (hb j h).same keep
    · obtain rfl : j = Ts.length := by omega
      have e1 : (gs ++ [Value.slice A m c']).getD Ts.length undef = Value.slice A m c' := by simp [List.getD, ← hgl]
      have e2 : (Ts ++ [x]).getD Ts.length [] = x := by simp [List.getD]
      rw [e1, e2]
      exact hgt.same keep
theorem wpList_appW {w : World} {ops : Array Oper} {rest : List Oper} {o : Oper} {a : Act} {Q : Exit → Act → World → Prop} (hgd : o.guard = none) (d y : Operand) (hop : o.op = .call { callee := .builtin .append, args := #[d, y], argTypes := #[29, 29] }) (hty : o.type = 29)
    (B : Nat) (v : Value) (Ts : List (List (BitVec 8))) (hd : a.eval d = v) (h : OW w B v Ts) (g c : Nat) (x : List (BitVec 8)) (A : Option Addr) (m c' : Nat) (hy : a.eval y = .slice (some ⟨g, 0, none⟩) 1 c) (hx : x.length = 64) (hg : Blk w g 54 [.slice A m c']) (hgt : OB w B (.slice A m c') x) (hl : Ts.length ≤ 1000000) (hB : B ≤ w.heap.size)
    (hk : ∀ v' w', OW w' B v' (Ts ++ [x]) → w.grownBy w' v.ownBlock → wpList Tryd.prog ops Q rest (a.put o.dst v') w') : wpList Tryd.prog ops Q (o :: rest) a w :=
  wpList_plain hgd fun _ hK => by
    obtain ⟨v', w', hr, h2, h3⟩ := run_appW (c := c) h hx hg hgt hl hB
    rw [← hty] at hr
    unfold Oper.wp execOp
    simp only [hop, resolve, invoke, builtin, Sem.run_bind, Sem.run_pure, Result.andThen_ok, List.map_toArray, List.map_cons, List.map_nil, hd, hy]
    rw [hty] at hr ⊢
    simp only [hr]
    exact hK _ _ (hk v' w' h2 h3)
theorem OW.ws {w : World} {B : Nat} {v : Value} {Ts : List (List (BitVec 8))} (h : OW w B v Ts) : ∃ A c, v = .slice A Ts.length c ∧ WsR w A Ts.length c Ts := by
  obtain ⟨h1, gs, hgl, ho, hb⟩ := h
  rcases ho.2 with ⟨rfl, h0⟩ | ⟨g, cap, cur, rfl, hbb, hg, r⟩
  · exact ⟨none, 0, by rw [h0], h1, rfl, fun hp => by omega⟩
  · refine ⟨_, cap, rfl, h1, rfl, fun hp => ⟨g, 0, rfl, (Array.getElem?_eq_some_iff.1 hg).1, fun j hj => ?_⟩⟩
    have hgj : gs[j]? = some (gs.getD j undef) := by simp [List.getD, show j < gs.length by omega]
    have hc := ho.cells (g := g) rfl j (gs.getD j undef) hgj
    rw [Addr.add_mid] at hc
    obtain ⟨A, cj, e, hr, hl, _⟩ := (hb j hj).rd
    rw [h1.at hj] at e hl
    exact ⟨A, cj, by rw [hc, e], hl, hr⟩
theorem OW.step25 {w w' : World} {B b : Nat} {v : Value} {Ts : List (List (BitVec 8))} {vs : List Value} (h : OW w B v Ts) (hg : w.grownBy w' v.ownBlock) (hb : Blk w b 25 vs) : Blk w' b 25 vs := hb.grown hg (fun e => by
  obtain ⟨_, _, cur, m, hc⟩ := h.lt e.symm
  rw [show w.heap[b]? = _ from hb] at hc; cases hc)
theorem OW.step5 {w w' : World} {B B' : Nat} {v y : Value} {Ts : List (List (BitVec 8))} {L : List (BitVec 8)} (h : OW w B v Ts) (hg : w.grownBy w' v.ownBlock) (hv : OB w B' y L) : OB w' B' y L := hv.same fun b cs m hbk => (hg.block b (Array.getElem?_eq_some_iff.1 hbk).1 (fun e => by
  obtain ⟨_, _, cur, m', hc⟩ := h.lt e.symm
  rw [hbk] at hc; cases hc)).trans hbk
theorem OW.stepB {w0 w w' : World} {B : Nat} {v : Value} {Ts : List (List (BitVec 8))} (h : OW w B v Ts) (hg : w.grownBy w' v.ownBlock) (hb : Below B w0 w) (hB : B ≤ w.heap.size) : Below B w0 w' := hb.grown hg hB (fun k e => (h.lt e).2.1)
theorem foldedT_len : ∀ (f : Nat) (h : List (BitVec 8)) (i n : Nat) (br : List (List (BitVec 8))), (foldedT tw f h i n br).length ≤ f
  | 0, _, _, _, _ => Nat.le_refl _
  | f + 1, h, i, n, br => by
    by_cases hn : n ≤ 1
    · cases br <;> simp [foldedT, hn]
    · rw [foldedT_step hn]
      by_cases hs : sib i n = true
      · rw [if_pos hs]
        cases br with
        | nil => simp
        | cons b r => simp only [List.length_cons]; have := foldedT_len f (tw (if i % 2 = 0 then h ++ b else b ++ h)) (i / 2) ((n + 1) / 2) r; omega
      · rw [if_neg hs, List.length_cons]
        have := foldedT_len f (tw (h ++ h)) (i / 2) ((n + 1) / 2) br; omega
theorem src_at {w w' : World} {b o : Nat} {y : List (BitVec 8)} (h : w.rangeAt b o (vbs y)) (hb : Below w.heap.size w w') (hl : b < w.heap.size) : Src22 w' (some ⟨b, o, none⟩) y.length (vbs y) :=
  ⟨vbs_len y, fun _ => ⟨⟨b, o, none⟩, rfl, fun j u hj => by rw [Addr.add_mid]; exact (hb.cell (p := ⟨b, o + j, none⟩) hl).trans (h j u hj)⟩, vbs_one y⟩
def NearPost (n : Nat) (w : World) (e : Ending) (w' : World) : Prop := ∃ j : Nat, j < n ∧ e = .returned (.int .i64 (j : Int)) ∧ w = w'
theorem near_any (i : Int) (n : Nat) (hi : -9223372036854775808 ≤ i ∧ i ≤ 9223372036854775807) (hn : 0 < n) (hm : n ≤ 1000000) (w : World) : Calls Tryd.prog 27 #[.int .i64 i, .int .i64 (n : Int)] w (NearPost n w) := by
  have hne' : ¬ (n : Int) = 0 := by omega
  have hlt : Int.tmod i (n : Int) < (n : Int) := Int.tmod_lt_of_pos i (by omega)
  have hgt : -(n : Int) < Int.tmod i (n : Int) := Int.lt_tmod_of_pos i (by omega)
  by_cases h0 : Int.tmod i (n : Int) < 0
  · obtain ⟨j, hj⟩ : ∃ j : Nat, Int.tmod i (n : Int) + (n : Int) = (j : Int) := ⟨(Int.tmod i (n : Int) + n).toNat, by omega⟩
    have hw : wrap64 (Int.tmod i (n : Int) + (n : Int)) = (j : Int) := by unfold wrap64; omega
    have H := Lib.hid (show j < n by omega)
    clear hj hlt hgt
    go_enter Tryd.func27, Tryd.ntmps27
    go_wp2_with fail
    go_ret
    exact ⟨j, H.out, by first | rfl | (show Ending.returned (Value.int IntKind.i64 (wrap64 (Int.tmod i (n : Int) + (n : Int)))) = _; rw [hw]), rfl⟩
  · obtain ⟨j, hj⟩ : ∃ j : Nat, Int.tmod i (n : Int) = (j : Int) := ⟨(Int.tmod i (n : Int)).toNat, by omega⟩
    have H := Lib.hid (show j < n by omega)
    have HJ := Lib.hid hj
    clear hj hlt hgt
    go_enter Tryd.func27, Tryd.ntmps27
    go_wp2_with fail
    go_ret
    exact ⟨j, H.out, by show Ending.returned (Value.int IntKind.i64 (Int.tmod i (n : Int))) = _; rw [HJ.out], rfl⟩
def FdPost (Ts : List (List (BitVec 8))) (w : World) (e : Ending) (w' : World) : Prop := ∃ v, e = .returned v ∧ OW w' w.heap.size v Ts ∧ Below w.heap.size w w'
/-- Between two rounds of folded. -/
def FdRel (tw : List (BitVec 8) → List (BitVec 8)) (R : List (List (BitVec 8))) (w : World) (iv nv bv tv : Value) (wr : World) : Prop :=
  ∃ (f i n : Nat) (h : List (BitVec 8)) (br : List (List (BitVec 8))) (A : Option Addr) (nb cb : Nat) (D : List (List (BitVec 8))), iv = .int .i64 (i : Int) ∧ nv = .int .i64 (n : Int) ∧ bv = .slice A nb cb ∧
    HBx wr w.heap.size h ∧ Below w.heap.size w wr ∧ RdN 32 w A nb cb br ∧ i < n ∧ n ≤ 1048576 ∧ n ≤ f ∧ (foldT tw f h i n br).isSome = true ∧ OW wr w.heap.size tv D ∧ D ++ foldedT tw f h i n br = R
set_option maxHeartbeats 4000000 in
theorem folded_any (T : TwC tw) (h : List (BitVec 8)) (hh : h.length = 32) (i n : Nat) (A : Option Addr) (nb cb : Nat) (br : List (List (BitVec 8))) (w : World) (hin : i < n) (hn : n ≤ 1000) (hR : RdN 32 w A nb cb br) (hG : Glob w) (hs : (foldT tw n h i n br).isSome = true) :
    Calls Tryd.prog 30 #[.agg (vbs h).toArray, .int .i64 (i : Int), .int .i64 (n : Int), .slice A nb cb] w (FdPost (foldedT tw n h i n br) w) := by
  have HT := Lib.hid T
  have HG := Lib.hid hG
  have HR := Lib.hid hR
  have HS := Lib.hid hs
  obtain ⟨R, hRR⟩ : ∃ R, R = foldedT tw n h i n br := ⟨_, rfl⟩
  have HRl : Hid (R.length ≤ 1000) := by
    have := foldedT_len (tw := tw) n h i n br
    rw [← hRR] at this
    exact Nat.le_trans this hn
  rw [← hRR]
  have HRR := Lib.hid hRR
  have hbel : Below w.heap.size w (w.alloc (.cells (vbs h).toArray 25)) := (Below.refl _ _).alloc (Nat.le_refl _) _
  have H0 := Lib.hid (HBx.new w h hh)
  have HB := Lib.hid hbel
  clear T hG hR hs hRR hbel
  go_enter Tryd.func30, Tryd.ntmps30
  go_wp2_with fail
  generalize (w.alloc (.cells (vbs h).toArray 25)) = W0 at H0 HB ⊢
  go_loopw [1, 2, 3, 9] (fun iv nv bv tv wr => FdRel tw R w iv nv bv tv wr) (fun _ nv _ _ _ => (intOf nv).toNat)
  case atStart => exact ⟨n, i, n, h, br, A, nb, cb, [], rfl, rfl, rfl, H0.out, HB.out, HR.out, hin, by omega, Nat.le_refl _, HS.out, OW.nil _ _, by rw [HRR.out]; rfl⟩
  case round =>
    obtain ⟨f, i, n, g, bs, A1, n1, c1, D, rfl, rfl, rfl, h0, hb, hr, hin, hn20, hnf, hso, hod, hfo⟩ := hrel
    have G0 := Lib.hid h0
    have GB := Lib.hid hb
    have GR := Lib.hid hr
    have GS := Lib.hid hso
    have GO := Lib.hid hod
    have GF := Lib.hid hfo
    have G0L := Lib.hid h0.2
    have hszw : w.heap.size < wr.heap.size := h0.1.lt
    have GD : Hid (D.length ≤ 1000000) := by
      have := HRl.out
      rw [← hfo, List.length_append] at this
      show D.length ≤ 1000000
      omega
    clear h0 hb hr hso hod hfo H0 HB HR HRR HS hh
    obtain ⟨f, rfl⟩ : ∃ k, f = k + 1 := ⟨f - 1, by omega⟩
    by_cases hn1 : n ≤ 1
    · have hn1' : ¬ (1 : Int) < (n : Int) := by omega
      have hRD : R = D := by
        rw [← GF.out]
        cases bs <;> simp [foldedT, hn1]
      go_wp2_with fail
      go_ret
      exact ⟨_, rfl, GO.out, GB.out⟩
    · have hn1' : (1 : Int) < (n : Int) := by omega
      have Hn1 := Lib.hid hn1
      have s1 := sl25_all
      by_cases hsb : sib i n = true
      · have Hsb := Lib.hid hsb
        have hcd : ¬ (i % 2 = 0 ∧ n ≤ i + 1) := by
          intro ⟨a, b⟩
          unfold sib at hsb
          simp at hsb; omega
        cases bs with
        | nil =>
          exfalso
          have := GS.out
          rw [fold_step hn1, if_pos hsb] at this
          cases this
        | cons y r =>
          have hnp : 0 < n1 := by have := GR.out.num; simp at this; omega
          obtain ⟨b, o, rfl, hbb, hpk⟩ := GR.out.pick (by omega) hnp
          have hy32 : y.length = 32 := GR.out.len y (by simp)
          have RY := Lib.hid (show wr.rangeAt b o (vbs y) from fun j u hj => (GB.out.cell (p := ⟨b, o + j, none⟩) hbb).trans (by have := (hpk 0 hnp).1 j u hj; rwa [Nat.zero_mul, Nat.add_zero] at this))
          have GYL := Lib.hid hy32
          have GRr := Lib.hid GR.out.rest
          have hsl := sl22_1 b o n1 c1 hnp
          generalize (if c1 = 1 then some (⟨b, o, none⟩ : Addr) else some ⟨b, o + 32, none⟩) = A2 at GRr hsl
          have hpos' : (0 : Int) < (n1 : Int) := by omega
          have hbw : b < wr.heap.size := by omega
          clear hpk hy32 hsb hn1
          by_cases hp : i % 2 = 0
          · have hp' : ((i : Int) % 2 == 0) = true := by simp; omega
            have hge : decide ((n : Int) ≤ (i : Int) + 1) = false := by simp; omega
            have Hp := Lib.hid hp
            clear hp hcd
            go_upto_region 7 with fail
            refine wp_calm ?_
            refine wp_region_but (z := 999) (SBw wr) (by kernel_rfl) ?_
            have hS : (SBw wr) wr.drew := SBw.start wr
            refine AnyBut.takeE (i := 0) (v := ?_) rfl (by kernel_rfl) (by kernel_rfl) (by kernel_rfl) (by kernel_rfl) (fun _ _ _ h => h) (Or.inl ⟨by rfl, ?_⟩) hS ?_
            rotate_left
            · (intro wq hq; go_simp; try with_reducible rfl)
            try simp only [Act.put, List.setIfInBounds_toArray, List.set_cons_zero, List.set_cons_succ, List.getElem_toArray, List.getElem_cons_zero, List.getElem_cons_succ]
            refine AnyBut.takeE (i := 1) (v := ?_) rfl (by kernel_rfl) (by kernel_rfl) (by kernel_rfl) (by kernel_rfl) (fun _ _ _ h => h) (Or.inl ⟨by rfl, ?_⟩) hS ?_
            rotate_left
            · (intro wq hq; go_simp; try with_reducible rfl)
            try simp only [Act.put, List.setIfInBounds_toArray, List.set_cons_zero, List.set_cons_succ, List.getElem_toArray, List.getElem_cons_zero, List.getElem_cons_succ]
            refine AnyBut.takeE (i := 3) (v := ?_) rfl (by kernel_rfl) (by kernel_rfl) (by kernel_rfl) (by kernel_rfl) (fun _ _ _ h => h) (Or.inl ⟨by rfl, ?_⟩) hS ?_
            rotate_left
            · (intro wq hq; go_simp; try with_reducible rfl)
            try simp only [Act.put, List.setIfInBounds_toArray, List.set_cons_zero, List.set_cons_succ, List.getElem_toArray, List.getElem_cons_zero, List.getElem_cons_succ]
            refine AnyBut.takeE (i := 4) (v := .pointer (some ⟨b, o, none⟩)) rfl (by kernel_rfl) (by kernel_rfl) (by kernel_rfl) (by kernel_rfl) (fun _ _ _ h => h) (Or.inl ⟨by rfl, ?_⟩) hS ?_
            · (intro wq hq; go_simp)
            try simp only [Act.put, List.setIfInBounds_toArray, List.set_cons_zero, List.set_cons_succ, List.getElem_toArray, List.getElem_cons_zero, List.getElem_cons_succ]
            refine AnyBut.takeE (i := 5) (v := ?_) rfl (by kernel_rfl) (by kernel_rfl) (by kernel_rfl) (by kernel_rfl) (fun _ _ _ h => h) (Or.inl ⟨by rfl, ?_⟩) hS ?_
            rotate_left
            · (intro wq hq; go_simp; try with_reducible rfl)
            try simp only [Act.put, List.setIfInBounds_toArray, List.set_cons_zero, List.set_cons_succ, List.getElem_toArray, List.getElem_cons_zero, List.getElem_cons_succ]
            refine AnyBut.gone (i := 2) (by kernel_rfl) rfl (by rfl) (fun K hK => ?_)
            refine wp_push (.tmp 30) (.tmp 31) rfl rfl wr.heap.size (.slice none 0 0) [] g rfl (OB.nil _ _) (some ⟨w.heap.size, 0, none⟩) 32 32 rfl G0L.out.symm (src_of_blk (G0.out.below hS).1) (fun h => by cases h) (by rw [G0L.out]; decide) hS (Below.size hS) (Nat.le_refl _) ?_
            intro v5 W5 ho5 hS5 _
            rw [List.nil_append] at ho5
            clear hS
            refine hK _ _ (fun _ => hS5) ?_
            clear hK K
            try simp only [Act.put, List.setIfInBounds_toArray, List.set_cons_zero, List.set_cons_succ, List.getElem_toArray, List.getElem_cons_zero, List.getElem_cons_succ]
            have hS := hS5
            refine AnyBut.gone (i := 6) (by kernel_rfl) rfl (by rfl) (fun K hK => ?_)
            refine wp_push (.tmp 32) (.tmp 35) rfl rfl wr.heap.size v5 g y rfl ho5 (some ⟨b, o, none⟩) 32 32 rfl GYL.out.symm (src_at RY.out hS5 hbw) (fun h => by cases h) (by have h1 := G0L.out; have h2 := GYL.out; omega) hS5 (Below.size hS5) (Nat.le_refl _) ?_
            intro v6 W6 ho6 hS6 _
            clear hS hS5
            refine hK _ _ (fun _ => hS6) ?_
            clear hK K
            try simp only [Act.put, List.setIfInBounds_toArray, List.set_cons_zero, List.set_cons_succ, List.getElem_toArray, List.getElem_cons_zero, List.getElem_cons_succ]
            have hS := hS6
            refine AnyBut.gone (i := 7) (by kernel_rfl) rfl (by rfl) (fun K hK => ?_)
            go_simp
            refine hK _ _ (fun _ => hS6) ?_
            clear hK K
            try simp only [Act.put, List.setIfInBounds_toArray, List.set_cons_zero, List.set_cons_succ, List.getElem_toArray, List.getElem_cons_zero, List.getElem_cons_succ]
            refine AnyBut.done (by kernel_rfl) ?_ _
            try dsimp only [Exit.then]
            clear hS
            obtain ⟨t, ht⟩ : ∃ t, t = g ++ y := ⟨_, rfl⟩
            have Ht := Lib.hid ht
            have Htl := Lib.hid (show t.length = 64 by rw [ht, List.length_append]; have h1 := G0L.out; have h2 := GYL.out; omega)
            rw [← ht] at ho6
            have hB6 := OB.base ho6 (Nat.le_of_lt hszw)
            obtain ⟨A6, c6, rfl, hr6, hl6, hm6, _⟩ := hB6.rd
            rw [Htl.out] at hl6 hB6 ⊢
            have E0 := Lib.hid (G0.out.below hS6)
            have BW6 := Lib.hid (GB.out.trans (Below.mono hS6 GB.out.size))
            have O6 := GO.out.below hS6
            have b7 : Below W6.heap.size W6 (W6.alloc (.cells #[.slice A6 64 c6] 54)) := (Below.refl _ _).alloc (Nat.le_refl _) _
            have O7 := Lib.hid (O6.below b7)
            have V7 := Lib.hid (OB.below (B' := 0) hB6 b7)
            have E7 := Lib.hid (E0.out.below b7)
            have BW7 := Lib.hid (BW6.out.trans (b7.mono BW6.out.size))
            have X7 := Lib.hid (Blk.new W6 54 #[.slice A6 64 c6])
            have S7 : Hid (w.heap.size ≤ (W6.alloc (.cells #[.slice A6 64 c6] 54)).heap.size) := Nat.le_trans BW6.out.size b7.size
            clear ht ho6 hB6 hr6 O6 b7
            go_upto_region 12 with (first
              | ((with_reducible show wpList _ _ _ ((⟨some 51, _, _, _, _, _⟩ : Oper) :: _) _ _); refine wpList_appW rfl (.tmp 48) (.tmp 50) rfl rfl w.heap.size _ D rfl O7.out W6.heap.size 1 t A6 64 c6 rfl Htl.out X7.out V7.out GD.out S7.out ?_; intro v8 W8 ho8 hg8; dsimp only))
            have HO8 := Lib.hid ho8
            have E8 : Hid (HBx W8 w.heap.size g) := ⟨O7.out.step25 hg8 E7.out.1, E7.out.2⟩
            have BW8 := Lib.hid (O7.out.stepB hg8 BW7.out S7.out)
            obtain ⟨A8, c8, e8, hr8, hl8, _⟩ := (O7.out.step5 hg8 V7.out).rd
            rw [Htl.out] at e8 hl8
            obtain ⟨rfl, _, rfl⟩ : A6 = A8 ∧ True ∧ c6 = c8 := by simpa using e8
            have HC := Lib.hid (HT.out.at Htl.out (HG.out.below BW8.out) hr8 hl8 (by omega))
            obtain ⟨N, hN⟩ : ∃ N, N = tw t := ⟨_, rfl⟩
            have HN := Lib.hid hN
            have HNl := Lib.hid (show N.length = 32 by rw [hN]; exact HT.out.len _)
            have IN := Lib.hid (i25a HNl.out)
            rw [← hN] at HC
            clear hg8 ho8 hr8 e8 hN O7 V7 X7 S7 E7 BW7 E0 BW6
            go_wp2_with (first
              | (go_at_call 37; (with_reducible refine HC.out.mono ?_); rintro e W9 ⟨rfl, hb9⟩; have E9 := Lib.hid (E8.out.below hb9); have HO9 := Lib.hid (HO8.out.below hb9); have BW9 := Lib.hid (BW8.out.trans (hb9.mono BW8.out.size)); have KT9 := Lib.hid ((E8.out.below hb9).kt HNl.out); clear hb9 HC; dsimp only)
              | ((with_reducible show wpList _ _ _ ((⟨none, _, _, _, _, _⟩ : Oper) :: _) _ _); with_reducible refine wpList_store_mid rfl 25 (.tmp 4) (.tmp 53) rfl w.heap.size 0 (vbs N).toArray rfl rfl KT9.out IN.out (all_oneCell_toArray (vbs_one _)) ?_))
            go_roundw
            case rel =>
              have EB := below_setCells (B := w.heap.size) (Nat.le_refl _) (vbs N) 0 _ BW9.out
              refine ⟨f, i / 2, (n + 1) / 2, N, r, A2, (n1 - 1), (c1 - 1), D ++ [t], by go_num, by go_num, rfl, E9.out.set HNl.out, EB, GRr.out, by omega, by omega, by omega, ?_, HO9.out.other E9.out.1, ?_⟩
              · have := GS.out
                rw [HN.out, Ht.out]
                simpa [foldT, Hn1.out, Hsb.out, Hp.out] using this
              · rw [← GF.out, List.append_assoc, HN.out, Ht.out]
                simp [foldedT, Hn1.out, Hsb.out, Hp.out]
            case measure => simp [intOf]; omega
          · have hp' : ((i : Int) % 2 == 0) = false := by simp; omega
            have Hp := Lib.hid hp
            clear hp hcd
            go_upto_region 9 with fail
            refine wp_calm ?_
            refine wp_region_but (z := 999) (SBw wr) (by kernel_rfl) ?_
            have hS : (SBw wr) wr.drew := SBw.start wr
            refine AnyBut.takeE (i := 0) (v := ?_) rfl (by kernel_rfl) (by kernel_rfl) (by kernel_rfl) (by kernel_rfl) (fun _ _ _ h => h) (Or.inl ⟨by rfl, ?_⟩) hS ?_
            rotate_left
            · (intro wq hq; go_simp; try with_reducible rfl)
            try simp only [Act.put, List.setIfInBounds_toArray, List.set_cons_zero, List.set_cons_succ, List.getElem_toArray, List.getElem_cons_zero, List.getElem_cons_succ]
            refine AnyBut.takeE (i := 1) (v := ?_) rfl (by kernel_rfl) (by kernel_rfl) (by kernel_rfl) (by kernel_rfl) (fun _ _ _ h => h) (Or.inl ⟨by rfl, ?_⟩) hS ?_
            rotate_left
            · (intro wq hq; go_simp; try with_reducible rfl)
            try simp only [Act.put, List.setIfInBounds_toArray, List.set_cons_zero, List.set_cons_succ, List.getElem_toArray, List.getElem_cons_zero, List.getElem_cons_succ]
            refine AnyBut.takeE (i := 2) (v := .pointer (some ⟨b, o, none⟩)) rfl (by kernel_rfl) (by kernel_rfl) (by kernel_rfl) (by kernel_rfl) (fun _ _ _ h => h) (Or.inl ⟨by rfl, ?_⟩) hS ?_
            · (intro wq hq; go_simp)
            try simp only [Act.put, List.setIfInBounds_toArray, List.set_cons_zero, List.set_cons_succ, List.getElem_toArray, List.getElem_cons_zero, List.getElem_cons_succ]
            refine AnyBut.takeE (i := 3) (v := ?_) rfl (by kernel_rfl) (by kernel_rfl) (by kernel_rfl) (by kernel_rfl) (fun _ _ _ h => h) (Or.inl ⟨by rfl, ?_⟩) hS ?_
            rotate_left
            · (intro wq hq; go_simp; try with_reducible rfl)
            try simp only [Act.put, List.setIfInBounds_toArray, List.set_cons_zero, List.set_cons_succ, List.getElem_toArray, List.getElem_cons_zero, List.getElem_cons_succ]
            refine AnyBut.takeE (i := 5) (v := ?_) rfl (by kernel_rfl) (by kernel_rfl) (by kernel_rfl) (by kernel_rfl) (fun _ _ _ h => h) (Or.inl ⟨by rfl, ?_⟩) hS ?_
            rotate_left
            · (intro wq hq; go_simp; try with_reducible rfl)
            try simp only [Act.put, List.setIfInBounds_toArray, List.set_cons_zero, List.set_cons_succ, List.getElem_toArray, List.getElem_cons_zero, List.getElem_cons_succ]
            refine AnyBut.gone (i := 4) (by kernel_rfl) rfl (by rfl) (fun K hK => ?_)
            refine wp_push (.tmp 39) (.tmp 42) rfl rfl wr.heap.size (.slice none 0 0) [] y rfl (OB.nil _ _) (some ⟨b, o, none⟩) 32 32 rfl GYL.out.symm (src_at RY.out hS hbw) (fun h => by cases h) (by rw [GYL.out]; decide) hS (Below.size hS) (Nat.le_refl _) ?_
            intro v5 W5 ho5 hS5 _
            rw [List.nil_append] at ho5
            clear hS
            refine hK _ _ (fun _ => hS5) ?_
            clear hK K
            try simp only [Act.put, List.setIfInBounds_toArray, List.set_cons_zero, List.set_cons_succ, List.getElem_toArray, List.getElem_cons_zero, List.getElem_cons_succ]
            have hS := hS5
            refine AnyBut.gone (i := 6) (by kernel_rfl) rfl (by rfl) (fun K hK => ?_)
            refine wp_push (.tmp 43) (.tmp 44) rfl rfl wr.heap.size v5 y g rfl ho5 (some ⟨w.heap.size, 0, none⟩) 32 32 rfl G0L.out.symm (src_of_blk (G0.out.below hS5).1) (fun h => by cases h) (by have h1 := GYL.out; have h2 := G0L.out; omega) hS5 (Below.size hS5) (Nat.le_refl _) ?_
            intro v6 W6 ho6 hS6 _
            clear hS hS5
            refine hK _ _ (fun _ => hS6) ?_
            clear hK K
            try simp only [Act.put, List.setIfInBounds_toArray, List.set_cons_zero, List.set_cons_succ, List.getElem_toArray, List.getElem_cons_zero, List.getElem_cons_succ]
            have hS := hS6
            refine AnyBut.gone (i := 7) (by kernel_rfl) rfl (by rfl) (fun K hK => ?_)
            go_simp
            refine hK _ _ (fun _ => hS6) ?_
            clear hK K
            try simp only [Act.put, List.setIfInBounds_toArray, List.set_cons_zero, List.set_cons_succ, List.getElem_toArray, List.getElem_cons_zero, List.getElem_cons_succ]
            refine AnyBut.done (by kernel_rfl) ?_ _
            try dsimp only [Exit.then]
            clear hS
            obtain ⟨t, ht⟩ : ∃ t, t = y ++ g := ⟨_, rfl⟩
            have Ht := Lib.hid ht
            have Htl := Lib.hid (show t.length = 64 by rw [ht, List.length_append]; have h1 := GYL.out; have h2 := G0L.out; omega)
            rw [← ht] at ho6
            have hB6 := OB.base ho6 (Nat.le_of_lt hszw)
            obtain ⟨A6, c6, rfl, hr6, hl6, hm6, _⟩ := hB6.rd
            rw [Htl.out] at hl6 hB6 ⊢
            have E0 := Lib.hid (G0.out.below hS6)
            have BW6 := Lib.hid (GB.out.trans (Below.mono hS6 GB.out.size))
            have O6 := GO.out.below hS6
            have b7 : Below W6.heap.size W6 (W6.alloc (.cells #[.slice A6 64 c6] 54)) := (Below.refl _ _).alloc (Nat.le_refl _) _
            have O7 := Lib.hid (O6.below b7)
            have V7 := Lib.hid (OB.below (B' := 0) hB6 b7)
            have E7 := Lib.hid (E0.out.below b7)
            have BW7 := Lib.hid (BW6.out.trans (b7.mono BW6.out.size))
            have X7 := Lib.hid (Blk.new W6 54 #[.slice A6 64 c6])
            have S7 : Hid (w.heap.size ≤ (W6.alloc (.cells #[.slice A6 64 c6] 54)).heap.size) := Nat.le_trans BW6.out.size b7.size
            clear ht ho6 hB6 hr6 O6 b7
            go_upto_region 12 with (first
              | ((with_reducible show wpList _ _ _ ((⟨some 51, _, _, _, _, _⟩ : Oper) :: _) _ _); refine wpList_appW rfl (.tmp 48) (.tmp 50) rfl rfl w.heap.size _ D rfl O7.out W6.heap.size 1 t A6 64 c6 rfl Htl.out X7.out V7.out GD.out S7.out ?_; intro v8 W8 ho8 hg8; dsimp only))
            have HO8 := Lib.hid ho8
            have E8 : Hid (HBx W8 w.heap.size g) := ⟨O7.out.step25 hg8 E7.out.1, E7.out.2⟩
            have BW8 := Lib.hid (O7.out.stepB hg8 BW7.out S7.out)
            obtain ⟨A8, c8, e8, hr8, hl8, _⟩ := (O7.out.step5 hg8 V7.out).rd
            rw [Htl.out] at e8 hl8
            obtain ⟨rfl, _, rfl⟩ : A6 = A8 ∧ True ∧ c6 = c8 := by simpa using e8
            have HC := Lib.hid (HT.out.at Htl.out (HG.out.below BW8.out) hr8 hl8 (by omega))
            obtain ⟨N, hN⟩ : ∃ N, N = tw t := ⟨_, rfl⟩
            have HN := Lib.hid hN
            have HNl := Lib.hid (show N.length = 32 by rw [hN]; exact HT.out.len _)
            have IN := Lib.hid (i25a HNl.out)
            rw [← hN] at HC
            clear hg8 ho8 hr8 e8 hN O7 V7 X7 S7 E7 BW7 E0 BW6
            go_wp2_with (first
              | (go_at_call 37; (with_reducible refine HC.out.mono ?_); rintro e W9 ⟨rfl, hb9⟩; have E9 := Lib.hid (E8.out.below hb9); have HO9 := Lib.hid (HO8.out.below hb9); have BW9 := Lib.hid (BW8.out.trans (hb9.mono BW8.out.size)); have KT9 := Lib.hid ((E8.out.below hb9).kt HNl.out); clear hb9 HC; dsimp only)
              | ((with_reducible show wpList _ _ _ ((⟨none, _, _, _, _, _⟩ : Oper) :: _) _ _); with_reducible refine wpList_store_mid rfl 25 (.tmp 4) (.tmp 53) rfl w.heap.size 0 (vbs N).toArray rfl rfl KT9.out IN.out (all_oneCell_toArray (vbs_one _)) ?_))
            go_roundw
            case rel =>
              have EB := below_setCells (B := w.heap.size) (Nat.le_refl _) (vbs N) 0 _ BW9.out
              refine ⟨f, i / 2, (n + 1) / 2, N, r, A2, (n1 - 1), (c1 - 1), D ++ [t], by go_num, by go_num, rfl, E9.out.set HNl.out, EB, GRr.out, by omega, by omega, by omega, ?_, HO9.out.other E9.out.1, ?_⟩
              · have := GS.out
                rw [HN.out, Ht.out]
                simpa [foldT, Hn1.out, Hsb.out, Hp.out] using this
              · rw [← GF.out, List.append_assoc, HN.out, Ht.out]
                simp [foldedT, Hn1.out, Hsb.out, Hp.out]
            case measure => simp [intOf]; omega
      · have Hsb : Hid (sib i n = false) := (show sib i n = false from by simpa using hsb)
        have hcd : i % 2 = 0 ∧ n ≤ i + 1 := by
          have h2 := Hsb.out
          unfold sib at h2
          simp at h2; omega
        obtain ⟨hp, hge0⟩ := hcd
        have hp' : ((i : Int) % 2 == 0) = true := by simp; omega
        have hge : decide ((n : Int) ≤ (i : Int) + 1) = true := by simp; omega
        clear hsb hn1 hp
        go_upto_region 5 with fail
        refine wp_calm ?_
        refine wp_region_but (z := 999) (SBw wr) (by kernel_rfl) ?_
        have hS : (SBw wr) wr.drew := SBw.start wr
        refine AnyBut.takeE (i := 0) (v := ?_) rfl (by kernel_rfl) (by kernel_rfl) (by kernel_rfl) (by kernel_rfl) (fun _ _ _ h => h) (Or.inl ⟨by rfl, ?_⟩) hS ?_
        rotate_left
        · (intro wq hq; go_simp; try with_reducible rfl)
        try simp only [Act.put, List.setIfInBounds_toArray, List.set_cons_zero, List.set_cons_succ, List.getElem_toArray, List.getElem_cons_zero, List.getElem_cons_succ]
        refine AnyBut.takeE (i := 1) (v := ?_) rfl (by kernel_rfl) (by kernel_rfl) (by kernel_rfl) (by kernel_rfl) (fun _ _ _ h => h) (Or.inl ⟨by rfl, ?_⟩) hS ?_
        rotate_left
        · (intro wq hq; go_simp; try with_reducible rfl)
        try simp only [Act.put, List.setIfInBounds_toArray, List.set_cons_zero, List.set_cons_succ, List.getElem_toArray, List.getElem_cons_zero, List.getElem_cons_succ]
        refine AnyBut.takeE (i := 3) (v := ?_) rfl (by kernel_rfl) (by kernel_rfl) (by kernel_rfl) (by kernel_rfl) (fun _ _ _ h => h) (Or.inl ⟨by rfl, ?_⟩) hS ?_
        rotate_left
        · (intro wq hq; go_simp; try with_reducible rfl)
        try simp only [Act.put, List.setIfInBounds_toArray, List.set_cons_zero, List.set_cons_succ, List.getElem_toArray, List.getElem_cons_zero, List.getElem_cons_succ]
        refine AnyBut.gone (i := 2) (by kernel_rfl) rfl (by rfl) (fun K hK => ?_)
        refine wp_push (.tmp 22) (.tmp 23) rfl rfl wr.heap.size (.slice none 0 0) [] g rfl (OB.nil _ _) (some ⟨w.heap.size, 0, none⟩) 32 32 rfl G0L.out.symm (src_of_blk (G0.out.below hS).1) (fun h => by cases h) (by rw [G0L.out]; decide) hS (Below.size hS) (Nat.le_refl _) ?_
        intro v5 W5 ho5 hS5 _
        rw [List.nil_append] at ho5
        clear hS
        refine hK _ _ (fun _ => hS5) ?_
        clear hK K
        try simp only [Act.put, List.setIfInBounds_toArray, List.set_cons_zero, List.set_cons_succ, List.getElem_toArray, List.getElem_cons_zero, List.getElem_cons_succ]
        have hS := hS5
        refine AnyBut.gone (i := 4) (by kernel_rfl) rfl (by rfl) (fun K hK => ?_)
        refine wp_push (.tmp 24) (.tmp 25) rfl rfl wr.heap.size v5 g g rfl ho5 (some ⟨w.heap.size, 0, none⟩) 32 32 rfl G0L.out.symm (src_of_blk (G0.out.below hS5).1) (fun h => by cases h) (by have h1 := G0L.out; have h2 := G0L.out; omega) hS5 (Below.size hS5) (Nat.le_refl _) ?_
        intro v6 W6 ho6 hS6 _
        clear hS hS5
        refine hK _ _ (fun _ => hS6) ?_
        clear hK K
        try simp only [Act.put, List.setIfInBounds_toArray, List.set_cons_zero, List.set_cons_succ, List.getElem_toArray, List.getElem_cons_zero, List.getElem_cons_succ]
        have hS := hS6
        refine AnyBut.gone (i := 5) (by kernel_rfl) rfl (by rfl) (fun K hK => ?_)
        go_simp
        refine hK _ _ (fun _ => hS6) ?_
        clear hK K
        try simp only [Act.put, List.setIfInBounds_toArray, List.set_cons_zero, List.set_cons_succ, List.getElem_toArray, List.getElem_cons_zero, List.getElem_cons_succ]
        refine AnyBut.done (by kernel_rfl) ?_ _
        try dsimp only [Exit.then]
        clear hS
        obtain ⟨t, ht⟩ : ∃ t, t = g ++ g := ⟨_, rfl⟩
        have Ht := Lib.hid ht
        have Htl := Lib.hid (show t.length = 64 by rw [ht, List.length_append]; have h1 := G0L.out; have h2 := G0L.out; omega)
        rw [← ht] at ho6
        have hB6 := OB.base ho6 (Nat.le_of_lt hszw)
        obtain ⟨A6, c6, rfl, hr6, hl6, hm6, _⟩ := hB6.rd
        rw [Htl.out] at hl6 hB6 ⊢
        have E0 := Lib.hid (G0.out.below hS6)
        have BW6 := Lib.hid (GB.out.trans (Below.mono hS6 GB.out.size))
        have O6 := GO.out.below hS6
        have b7 : Below W6.heap.size W6 (W6.alloc (.cells #[.slice A6 64 c6] 54)) := (Below.refl _ _).alloc (Nat.le_refl _) _
        have O7 := Lib.hid (O6.below b7)
        have V7 := Lib.hid (OB.below (B' := 0) hB6 b7)
        have E7 := Lib.hid (E0.out.below b7)
        have BW7 := Lib.hid (BW6.out.trans (b7.mono BW6.out.size))
        have X7 := Lib.hid (Blk.new W6 54 #[.slice A6 64 c6])
        have S7 : Hid (w.heap.size ≤ (W6.alloc (.cells #[.slice A6 64 c6] 54)).heap.size) := Nat.le_trans BW6.out.size b7.size
        clear ht ho6 hB6 hr6 O6 b7
        go_upto_region 12 with (first
          | ((with_reducible show wpList _ _ _ ((⟨some 51, _, _, _, _, _⟩ : Oper) :: _) _ _); refine wpList_appW rfl (.tmp 48) (.tmp 50) rfl rfl w.heap.size _ D rfl O7.out W6.heap.size 1 t A6 64 c6 rfl Htl.out X7.out V7.out GD.out S7.out ?_; intro v8 W8 ho8 hg8; dsimp only))
        have HO8 := Lib.hid ho8
        have E8 : Hid (HBx W8 w.heap.size g) := ⟨O7.out.step25 hg8 E7.out.1, E7.out.2⟩
        have BW8 := Lib.hid (O7.out.stepB hg8 BW7.out S7.out)
        obtain ⟨A8, c8, e8, hr8, hl8, _⟩ := (O7.out.step5 hg8 V7.out).rd
        rw [Htl.out] at e8 hl8
        obtain ⟨rfl, _, rfl⟩ : A6 = A8 ∧ True ∧ c6 = c8 := by simpa using e8
        have HC := Lib.hid (HT.out.at Htl.out (HG.out.below BW8.out) hr8 hl8 (by omega))
        obtain ⟨N, hN⟩ : ∃ N, N = tw t := ⟨_, rfl⟩
        have HN := Lib.hid hN
        have HNl := Lib.hid (show N.length = 32 by rw [hN]; exact HT.out.len _)
        have IN := Lib.hid (i25a HNl.out)
        rw [← hN] at HC
        clear hg8 ho8 hr8 e8 hN O7 V7 X7 S7 E7 BW7 E0 BW6
        go_wp2_with (first
          | (go_at_call 37; (with_reducible refine HC.out.mono ?_); rintro e W9 ⟨rfl, hb9⟩; have E9 := Lib.hid (E8.out.below hb9); have HO9 := Lib.hid (HO8.out.below hb9); have BW9 := Lib.hid (BW8.out.trans (hb9.mono BW8.out.size)); have KT9 := Lib.hid ((E8.out.below hb9).kt HNl.out); clear hb9 HC; dsimp only)
          | ((with_reducible show wpList _ _ _ ((⟨none, _, _, _, _, _⟩ : Oper) :: _) _ _); with_reducible refine wpList_store_mid rfl 25 (.tmp 4) (.tmp 53) rfl w.heap.size 0 (vbs N).toArray rfl rfl KT9.out IN.out (all_oneCell_toArray (vbs_one _)) ?_))
        go_roundw
        case rel =>
          have EB := below_setCells (B := w.heap.size) (Nat.le_refl _) (vbs N) 0 _ BW9.out
          refine ⟨f, i / 2, (n + 1) / 2, N, bs, A1, n1, c1, D ++ [t], by go_num, by go_num, rfl, E9.out.set HNl.out, EB, GR.out, by omega, by omega, by omega, ?_, HO9.out.other E9.out.1, ?_⟩
          · have := GS.out
            rw [HN.out, Ht.out]
            simpa [foldT, Hn1.out, Hsb.out] using this
          · rw [← GF.out, List.append_assoc, HN.out, Ht.out]
            simp [foldedT, Hn1.out, Hsb.out]
        case measure => simp [intOf]; omega
end Go.Proofs.YtihbmahjdmfjpaaDoor
