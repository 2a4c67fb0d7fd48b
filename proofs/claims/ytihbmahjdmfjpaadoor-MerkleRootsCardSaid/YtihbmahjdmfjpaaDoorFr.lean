/- What merkle.Branch returns. -/
import Derived.Test.YtihbmahjdmfjpaaDoorFo
import Derived.Test.YtihbmahjdmfjpaaDoorFp
import Derived.Outline
import Derived.StillTailTactics
namespace Go.Proofs.YtihbmahjdmfjpaaDoor
open Go.RowKit
set_option linter.unusedVariables false
set_option linter.unusedSimpArgs false
set_option maxRecDepth 100000
attribute [local go_sem] Oper.semAt_some
variable {tw : List (BitVec 8) → List (BitVec 8)}
/-- The number of the neighbour. -/
def xo (i : Nat) : Nat := if i % 2 = 0 then i + 1 else i - 1
def iK (i : Nat) : Nat → Nat
  | 0 => i
  | k + 1 => iK i k / 2
theorem iK_le (i : Nat) : ∀ k, iK i k ≤ i
  | 0 => Nat.le_refl _
  | k + 1 => by have := iK_le i k; show iK i k / 2 ≤ i; omega
def branchK (tw : List (BitVec 8) → List (BitVec 8)) (L : List (List (BitVec 8))) (i : Nat) : Nat → List (List (BitVec 8))
  | 0 => []
  | k + 1 => branchK tw L i k ++ (if xo (iK i k) < (rowN tw L k).length then [(rowN tw L k).getD (xo (iK i k)) []] else [])
def branchT (tw : List (BitVec 8) → List (BitVec 8)) (L : List (List (BitVec 8))) (i : Nat) : List (List (BitVec 8)) := branchK tw L i (nrow L.length)
theorem branchK_le (tw : List (BitVec 8) → List (BitVec 8)) (L : List (List (BitVec 8))) (i : Nat) : ∀ k, (branchK tw L i k).length ≤ k
  | 0 => Nat.le_refl _
  | k + 1 => by
    have := branchK_le tw L i k
    show (branchK tw L i k ++ _).length ≤ k + 1
    rw [List.length_append]
    split <;> simp <;> omega
theorem nrow_le : ∀ (m n : Nat), n ≤ m → nrow n ≤ n := by
  intro m
  induction m with
  | zero => intro n hn; rw [nrow_lo (by omega)]; exact Nat.le_refl _
  | succ m ih =>
    intro n hn
    by_cases h : n < 2
    · rw [nrow_lo h]; exact Nat.le_refl _
    · rw [nrow_up h]
      have := ih ((n + 1) / 2) (by omega)
      omega
theorem wpIn_calmT {F : Fence} {n : Nat} {P : Program} {c : Code} {K : Act → World → Prop} {Q' : Exit → Act → World → Prop} {a : Act} {w : World}
    (h : c.wpIn F n P (Exit.then K fun _ _ _ => False) a w) : c.wpIn F n P (Exit.then K Q') a w :=
  wpIn_mono h fun e a w q => by cases e <;> first | exact q | exact q.elim
def SBr (g : Nat) (v : Value) (b p : Nat) (X : List (BitVec 8)) (wq : World) : Prop := wq.cell? ⟨g, 0, none⟩ = some v ∧ wq.rangeAt b p (vbs X)
/-- Between two rounds of Branch. -/
structure BrI (tw : List (BitVec 8) → List (BitVec 8)) (L : List (List (BitVec 8))) (i : Nat) (w : World) (k : Nat) (W : World) : Prop where
  bi : Blk W w.heap.size 3 [.int .i64 ((iK i k : Nat) : Int)]
  o : ∃ v, Blk W (w.heap.size + 1) 22 [v] ∧ OF 25 32 W w.heap.size v (branchK tw L i k)
  b : Below w.heap.size w W
theorem BrI.own (tw : List (BitVec 8) → List (BitVec 8)) (L : List (List (BitVec 8))) (i : Nat) (w : World) (B : Nat) (hB : w.heap.size ≤ B) : OwnFrom B (BrI tw L i w) := fun k W W' row h hg hr =>
  ⟨own_blk h.bi hg (fun r e => (hr r e).2), by obtain ⟨v, h1, h2⟩ := h.o; exact ⟨v, own_blk h1 hg (fun r e => (hr r e).2), h2.own hg (fun r e => (hr r e).2)⟩, h.b.grown hg h.b.size (fun k e => Nat.le_trans hB (hr k e).1)⟩
def BrPost (r : Option (List (List (BitVec 8)))) (w : World) (e : Ending) (w' : World) : Prop := ∃ v, e = .returned (.tuple #[v, .bool r.isSome]) ∧ OF 25 32 w' w.heap.size v (r.getD []) ∧ Below w.heap.size w w'
def branchI (tw : List (BitVec 8) → List (BitVec 8)) (L : List (List (BitVec 8))) (i : Int) : Option (List (List (BitVec 8))) := if 0 ≤ i ∧ i < L.length then some (branchT tw L i.toNat) else none
set_option maxHeartbeats 4000000 in
theorem branch_any (T : TwC tw) (A : Option Addr) (n c : Nat) (L : List (List (BitVec 8))) (i : Int) (w : World) (hR : RdN 32 w A n c L) (hG : Glob w) (hn : n ≤ 100000) (hi : -9223372036854775808 ≤ i ∧ i ≤ 9223372036854775807) :
    Calls Tryd.prog 18 #[.slice A n c, .int .i64 i] w (BrPost (branchI tw L i) w) := by
  refine (callsIn_wide (n := 1)).1 (callsIn_of_wp_marks Tryd.func18 rfl trivial (wpIn_wide.2 ?_) rfl)
  simp only [Tryd.ntmps18, List.size_toArray, List.length_cons, List.length_nil, Nat.reduceAdd, Nat.reduceSub, Array.replicate_succ, Array.replicate_zero, List.push_toArray, List.append_toArray, List.nil_append, List.cons_append]
  have HN := Lib.hid hR.num
  have HR := Lib.hid hR
  have HG := Lib.hid hG
  have HT := Lib.hid T
  clear hR hG T
  by_cases h1 : i < 0
  · have h1b : decide (i < 0) = true := by simpa using h1
    have e : branchI tw L i = none := by unfold branchI; rw [if_neg (by omega)]
    rw [e]
    clear e
    go_wp2_with fail
    exact ⟨_, by simp [results, Tryd.results18, asAddr, Act.put], .slice none 0 0, rfl, OF.nil _ _ _ _, (Below.refl _ _).alloc (Nat.le_refl _) _⟩
  have h1b : decide (i < 0) = false := by simpa using h1
  obtain ⟨i, rfl⟩ : ∃ k : Nat, i = k := ⟨i.toNat, by omega⟩
  by_cases h2 : n ≤ i
  · have h2b : decide (n ≤ i) = true := by simpa using h2
    have e : branchI tw L (i : Int) = none := by unfold branchI; rw [if_neg (by rw [HN.out]; omega)]
    rw [e]
    clear e
    go_wp2_with fail
    exact ⟨_, by simp [results, Tryd.results18, asAddr, Act.put], .slice none 0 0, rfl, OF.nil _ _ _ _, (Below.refl _ _).alloc (Nat.le_refl _) _⟩
  have h2b : decide (n ≤ i) = false := by simpa using h2
  have e : branchI tw L (i : Int) = some (branchT tw L i) := by unfold branchI; rw [if_pos (by rw [HN.out]; omega), Int.toNat_natCast]
  rw [e]
  have hin : i < n := by omega
  clear e h2 h1
  go_wp2_with (go_at_call 32; (with_reducible refine (rows_val _ _ _ _).mono ?_); rintro e w' ⟨rfl, rfl⟩; dsimp only)
  rw [World.size_alloc, World.size_alloc]
  have hbel : Below w.heap.size w (((w.alloc (.cells #[.int .i64 (i : Int)] 3)).alloc (.cells #[.slice none 0 0] 22)).alloc (.cells #[.slice A n c] 22)) := (((Below.refl _ _).alloc (Nat.le_refl _) _).alloc (by simp) _).alloc (by simp; omega) _
  have b0 : Blk (((w.alloc (.cells #[.int .i64 (i : Int)] 3)).alloc (.cells #[.slice none 0 0] 22)).alloc (.cells #[.slice A n c] 22)) w.heap.size 3 [.int .i64 (i : Int)] := ((Blk.new w 3 #[.int .i64 (i : Int)]).alloc _).alloc _
  have b1 : Blk (((w.alloc (.cells #[.int .i64 (i : Int)] 3)).alloc (.cells #[.slice none 0 0] 22)).alloc (.cells #[.slice A n c] 22)) (w.heap.size + 1) 22 [.slice none 0 0] := by
    have := (Blk.new (w.alloc (.cells #[.int .i64 (i : Int)] 3)) 22 #[.slice none 0 0]).alloc (.cells #[.slice A n c] 22)
    simpa using this
  have b2 : Blk (((w.alloc (.cells #[.int .i64 (i : Int)] 3)).alloc (.cells #[.slice none 0 0] 22)).alloc (.cells #[.slice A n c] 22)) (w.heap.size + 1 + 1) 22 [.slice A n c] := by
    have := Blk.new ((w.alloc (.cells #[.int .i64 (i : Int)] 3)).alloc (.cells #[.slice none 0 0] 22)) 22 #[.slice A n c]
    simpa using this
  generalize (((w.alloc (.cells #[.int .i64 (i : Int)] 3)).alloc (.cells #[.slice none 0 0] 22)).alloc (.cells #[.slice A n c] 22)) = W0 at hbel b0 b1 b2 ⊢
  have hsz := b1.lt
  refine wp_range (gf := 45) (lb := #[.pointer (some ⟨w.heap.size + 1 + 1, 0, none⟩)]) rfl (enters_of Tryd.func45 (by kernel_rfl) rfl)
    (rows_seq HT.out A n c _ L W0 b2 (HR.out.below hbel) (HG.out.below hbel) hn w.heap.size (HR.out.far (by omega) _)) KpG.trans KpG.putObj (Below.refl _ _) (fun k vs W h => by obtain ⟨_, _, _, _, _, _, e, _⟩ := h; rw [e]; rfl)
    (fun k vs W l o o' h hl ho => by
      obtain ⟨A1, n1, c1, A2, n2, c2, e, h1, h2, h3⟩ := h
      exact ⟨A1, n1, c1, A2, n2, c2, e, h1.own (grownBy_putObj' W l o') (fun r e => by cases e; exact ⟨o, hl, ho⟩), h2.own (grownBy_putObj' W l o') (fun r e => by cases e; exact ⟨o, hl, ho⟩), h3⟩)
    (BrI tw L i w) (fun _ _ _ => False) (BrI.own tw L i w _ hbel.size) (fun c k W W' row h _ _ => h) ⟨b0, ⟨_, b1, OF.nil _ _ _ _⟩, hbel⟩
    (fun vs => { tmps := #[.slice A n c, .int .i64 (i : Int), undef, .pointer (some ⟨w.heap.size, 0, none⟩), .slice none 0 0, .bool false, .pointer (some ⟨w.heap.size + 1, 0, none⟩), vs.getD 0 undef, undef, .int .i64 (i : Int), .bool false, .bool false, .int .i64 (i : Int), .slice A n c, .int .i64 (n : Int), .bool false, .bool false, .slice A n c, .func (.func 45) #[] #[.pointer (some ⟨w.heap.size + 1 + 1, 0, none⟩)], vs.getD 0 undef, vs.getD 1 undef, undef, undef, undef, undef, undef, undef, undef, undef, undef, undef, undef, undef, undef, undef, undef, undef], defers := [] }) ?assign ?body ?done ?stop
  case assign =>
    intro l k vs W K hvs hK
    obtain ⟨A1, n1, c1, A2, n2, c2, rfl, h1, h2, h3⟩ := hvs
    gi_wp2
    exact hK
  case body =>
    rintro l k vs W hI hk ⟨A1, n1, c1, A2, n2, c2, rfl, h1, h2, h3⟩
    have hg0 : (#[Value.slice A1 n1 c1, .slice A2 n2 c2] : Array Value).getD 0 undef = .slice A1 n1 c1 := rfl
    have hg1 : (#[Value.slice A1 n1 c1, .slice A2 n2 c2] : Array Value).getD 1 undef = .slice A2 n2 c2 := rfl
    rw [hg0, hg1]
    obtain ⟨ik, hik⟩ : ∃ ik, ik = iK i k := ⟨_, rfl⟩
    have hikle : ik ≤ 100000 := by rw [hik]; have := iK_le i k; omega
    obtain ⟨x, hx⟩ : ∃ x, x = xo ik := ⟨_, rfl⟩
    have hxb := xor_i64 ik (by omega)
    rw [show (if ik % 2 = 0 then ik + 1 else ik - 1) = x by rw [hx]; rfl] at hxb
    have hxl : x ≤ 100001 := by rw [hx]; unfold xo; split <;> omega
    obtain ⟨v, hv, ho⟩ := hI.o
    have hbi := hI.bi
    rw [← hik] at hbi
    have Hik := Lib.hid hik
    have Hx := Lib.hid hx
    have c0 := hbi.cell (j := 0) (v := .int .i64 (ik : Int)) rfl
    have f0 := hbi.free 0
    have HBi := Lib.hid hbi
    have HV := Lib.hid hv
    have HO := Lib.hid ho
    have HBw := Lib.hid hI.b
    have H1 := Lib.hid h1
    have hkl : Hid ((branchK tw L i k).length ≤ 1000000) := show (branchK tw L i k).length ≤ 1000000 by
      have := branchK_le tw L i k
      have := nrow_le n n (Nat.le_refl _)
      omega
    clear hg0 hg1 hI h1 h2 h3 b0 b1 b2 hbel hik hx hv ho hbi
    by_cases hlt : x < n1
    · have hlt' : (x : Int) < (n1 : Int) := by omega
      obtain ⟨b, o, rfl, hb, hpk⟩ := H1.out.pick (by omega) (by omega)
      obtain ⟨X, hX⟩ : ∃ X, X = (rowN tw L k).getD x [] := ⟨_, rfl⟩
      have HX := Lib.hid hX
      have RX := Lib.hid (hpk x hlt).1
      have HXl := Lib.hid (hpk x hlt).2
      rw [← hX] at RX HXl
      have IX := Lib.hid (i25' (vs := vbs X) (by rw [vbs_len]; exact HXl.out))
      have eK : Hid (branchK tw L i (k + 1) = branchK tw L i k ++ [X]) := by
        show branchK tw L i k ++ (if xo (iK i k) < (rowN tw L k).length then [(rowN tw L k).getD (xo (iK i k)) []] else []) = _
        rw [← Hik.out, ← Hx.out, if_pos (by rw [H1.out.num]; exact hlt), HX.out]
      clear hX hpk hlt
      refine wpIn_block ?_
      gi_wp2
      have HS : Hid (SBr (w.heap.size + 1) v b (o + x * 32) X W) := ⟨HV.out.cell rfl, RX.out⟩
      have hvlt := HV.out.lt
      refine wpIn_calmT ?_
      refine wpIn_region_to (z := 6) (SBr (w.heap.size + 1) v b (o + x * 32) X) (by kernel_rfl) (by kernel_rfl) (fun ⟨_, _, h⟩ => h) ?_
      have hS : (SBr (w.heap.size + 1) v b (o + x * 32) X) W.drew := HS.out
      refine AnyTo.take (i := 0) (v := v) rfl (by kernel_rfl) (by kernel_rfl) (by kernel_rfl) (by kernel_rfl) (by kernel_rfl) (fun _ _ _ h => h) (Or.inl ⟨by rfl, ?_⟩) hS ?_
      · (intro wq hq; have h1 := hq.1; go_simp)
      try simp only [Act.put, List.setIfInBounds_toArray, List.set_cons_zero, List.set_cons_succ, List.getElem_toArray, List.getElem_cons_zero, List.getElem_cons_succ]
      refine AnyTo.take (i := 1) (v := ?_) rfl (by kernel_rfl) (by kernel_rfl) (by kernel_rfl) (by kernel_rfl) (by kernel_rfl) (fun _ _ _ h => h) (Or.inl ⟨by rfl, ?_⟩) hS ?_
      rotate_left
      · (intro wq hq; go_simp; try with_reducible rfl)
      try simp only [Act.put, List.setIfInBounds_toArray, List.set_cons_zero, List.set_cons_succ, List.getElem_toArray, List.getElem_cons_zero, List.getElem_cons_succ]
      refine AnyTo.take (i := 2) (v := ?_) rfl (by kernel_rfl) (by kernel_rfl) (by kernel_rfl) (by kernel_rfl) (by kernel_rfl) (fun _ _ _ h => h) (Or.inl ⟨by rfl, ?_⟩) hS ?_
      rotate_left
      · (intro wq hq; go_simp; try with_reducible rfl)
      try simp only [Act.put, List.setIfInBounds_toArray, List.set_cons_zero, List.set_cons_succ, List.getElem_toArray, List.getElem_cons_zero, List.getElem_cons_succ]
      refine AnyTo.take (i := 3) (v := .pointer (some ⟨b, o + x * 32, none⟩)) rfl (by kernel_rfl) (by kernel_rfl) (by kernel_rfl) (by kernel_rfl) (by kernel_rfl) (fun _ _ _ h => h) (Or.inl ⟨by rfl, ?_⟩) hS ?_
      · (intro wq hq; go_simp)
      try simp only [Act.put, List.setIfInBounds_toArray, List.set_cons_zero, List.set_cons_succ, List.getElem_toArray, List.getElem_cons_zero, List.getElem_cons_succ]
      refine AnyTo.take (i := 4) (v := .agg (vbs X).toArray) rfl (by kernel_rfl) (by kernel_rfl) (by kernel_rfl) (by kernel_rfl) (by kernel_rfl) (fun _ _ _ h => h) ?_ hS ?_
      · exact yieldsIf_load_mid (by rfl) 25 (.tmp 30) rfl (b) (o + x * 32) rfl (vbs X) _ (fun _ h => h.2) Tryd.underlying25 rfl IX.out
      try simp only [Act.put, List.setIfInBounds_toArray, List.set_cons_zero, List.set_cons_succ, List.getElem_toArray, List.getElem_cons_zero, List.getElem_cons_succ]
      refine AnyTo.gone (i := 5) (by kernel_rfl) rfl (by rfl) (fun K hK => ?_)
      refine wp_rows 22 25 32 (by omega) #[(0, .tmp 31)] [X] (.one HXl.out) (by simp) (by simp) rfl Tryd.underlying22 info25 z25 (by rfl) ?_
      have b2 : Below W.heap.size W (W.drew.alloc (.cells (vbs [X].flatten).toArray 25)) := (Below.refl _ _).drew.alloc (Nat.le_refl _) _
      have g2 : Blk (W.drew.alloc (.cells (vbs [X].flatten).toArray 25)) W.heap.size 25 (vbs X) := by
        have := Blk.new W.drew 25 (vbs [X].flatten).toArray
        simpa using this
      have e0 : W.drew.heap.size = W.heap.size := rfl
      rw [e0]
      generalize (W.drew.alloc (.cells (vbs [X].flatten).toArray 25)) = W2 at b2 g2 ⊢
      have V2 := Lib.hid (HV.out.below b2 hvlt)
      have I2 := Lib.hid (HBi.out.below b2 HBi.out.lt)
      have hS2 : SBr (w.heap.size + 1) v b (o + x * 32) X W2 := ⟨V2.out.cell rfl, fun j u hj => (b2.cell (p := ⟨b, o + x * 32 + j, none⟩) hb).trans (RX.out j u hj)⟩
      have G2 := Lib.hid g2
      have HO2 := Lib.hid (HO.out.below b2)
      have HB2 := Lib.hid b2
      have hs2 := b2.size
      clear hS b2 g2 e0
      refine hK _ _ (fun _ => hS2) ?_
      clear hK K
      try simp only [Act.put, List.setIfInBounds_toArray, List.set_cons_zero, List.set_cons_succ, List.getElem_toArray, List.getElem_cons_zero, List.getElem_cons_succ]
      refine AnyTo.gone (i := 6) (by kernel_rfl) rfl (by rfl) (fun K hK => ?_)
      refine wp_appF Tryd.underlying22 info25f rfl (by omega) (by omega) (.tmp 27) (.tmp 32) rfl rfl w.heap.size v _ rfl HO2.out W.heap.size 25 1 X rfl HXl.out G2.out hkl.out (by omega) ?_
      intro v' W3 ho3 hg3
      obtain ⟨A5, c5, e5, _⟩ := ho3.rdN
      rw [show (branchK tw L i k ++ [X]).length = (branchK tw L i k).length + 1 by simp] at e5
      subst e5
      have hgb : ∀ gg, v.ownBlock = some gg → gg ≠ w.heap.size + 1 ∧ gg ≠ w.heap.size := fun gg e => by
        obtain ⟨_, _, cur, mm, hcur⟩ := HO2.out.lt e
        constructor
        · intro h
          subst h
          have := V2.out
          unfold Blk at this
          rw [hcur] at this; cases this
        · intro h
          subst h
          have := I2.out
          unfold Blk at this
          rw [hcur] at this; cases this
      have V3 : Blk W3 (w.heap.size + 1) 22 [v] := V2.out.grown hg3 (fun e => (hgb _ e.symm).1 rfl)
      have I3 : Blk W3 w.heap.size 3 [.int .i64 (ik : Int)] := I2.out.grown hg3 (fun e => (hgb _ e.symm).2 rfl)
      have BW3 := Lib.hid ((HBw.out.trans (HB2.out.mono HBw.out.size)).grown hg3 (Nat.le_trans HBw.out.size HB2.out.size) (fun k e => (HO2.out.lt e).2.1))
      have KO3 := Lib.hid ((keepsO_below HB2.out).trans (HO2.out.keeps hg3))
      have KT3 := Lib.hid (((KpT.below (Ts := [57]) HB2.out)).trans (KpT.grown hg3 (fun r e => by obtain ⟨_, _, cur, mm, hc⟩ := HO2.out.lt e; exact ⟨cur, _, mm, hc, by decide⟩)))
      have HO3 := Lib.hid ho3
      have c3 := V3.cell (j := 0) (v := v) rfl
      have f3 := V3.free 0
      have HV3 := Lib.hid V3
      have HI3 := Lib.hid I3
      clear ho3 hg3 hgb V3 I3 hS2 c0 f0
      refine hK _ _ (fun h => absurd h (by decide)) ?_
      clear hK K
      try simp only [Act.put, List.setIfInBounds_toArray, List.set_cons_zero, List.set_cons_succ, List.getElem_toArray, List.getElem_cons_zero, List.getElem_cons_succ]
      refine AnyTo.gone (i := 7) (by kernel_rfl) rfl (by rfl) (fun K hK => ?_)
      go_simp
      refine hK _ _ (fun h => absurd h (by decide)) ?_
      clear hK K
      try simp only [Act.put, List.setIfInBounds_toArray, List.set_cons_zero, List.set_cons_succ, List.getElem_toArray, List.getElem_cons_zero, List.getElem_cons_succ]
      refine AnyTo.done (by kernel_rfl) ?_ _
      try dsimp only [Exit.then]
      have V4 := HV3.out.set 0 (.slice A5 ((branchK tw L i k).length + 1) c5)
      have I4 := HI3.out.other (a := ⟨w.heap.size + 1, 0, none⟩) (by show w.heap.size ≠ w.heap.size + 1; omega) (.slice A5 ((branchK tw L i k).length + 1) c5)
      have O4 := HO3.out.aside (x := .slice A5 ((branchK tw L i k).length + 1) c5) HV3.out (by decide) 0
      have BW4 := BW3.out.setCell (p := ⟨w.heap.size + 1, 0, none⟩) (Nat.le_succ _) (.slice A5 ((branchK tw L i k).length + 1) c5)
      have KO4 := KO3.out.trans (KeepsOthers.setCell W3 ⟨w.heap.size + 1, 0, none⟩ (.slice A5 ((branchK tw L i k).length + 1) c5))
      have KT4 := KT3.out.trans (KpT.setCell (show W3.heap[w.heap.size + 1]? = _ from HV3.out) (by decide) 0 (.slice A5 ((branchK tw L i k).length + 1) c5))
      generalize (W3.setCell ⟨w.heap.size + 1, 0, none⟩ (.slice A5 ((branchK tw L i k).length + 1) c5)) = W4 at V4 I4 O4 BW4 KO4 KT4 ⊢
      have c4 := I4.cell (j := 0) (v := .int .i64 (ik : Int)) rfl
      have f4 := I4.free 0
      have HV4 := Lib.hid V4
      have HI4 := Lib.hid I4
      have HO4 := Lib.hid O4
      have HB4 := Lib.hid BW4
      have HK4 := Lib.hid KO4
      have HT4 := Lib.hid KT4
      clear V4 I4 O4 BW4 KO4 KT4 c3 f3
      gi_wp2
      show KeepsOthers W _ ∧ KpG W _ ∧ BrI tw L i w (k + 1) _
      have hB5 := HB4.out.setCell (p := ⟨w.heap.size, 0, none⟩) (Nat.le_refl _) (.int .i64 ((ik : Int) / 2))
      have hK5 := HK4.out.trans (KeepsOthers.setCell W4 ⟨w.heap.size, 0, none⟩ (.int .i64 ((ik : Int) / 2)))
      have hI5 := HI4.out.set 0 (.int .i64 ((ik : Int) / 2))
      refine ⟨hK5, kpG_of (HT4.out.trans (KpT.setCell (show W4.heap[w.heap.size]? = _ from HI4.out) (by decide) 0 _)) hK5 HG.out hB5, ⟨?_, ⟨_, HV4.out.other (a := ⟨w.heap.size, 0, none⟩) (by show w.heap.size + 1 ≠ w.heap.size; omega) _, ?_⟩, hB5⟩⟩
      · have e2 : ((iK i (k + 1) : Nat) : Int) = (ik : Int) / 2 := by
          show ((iK i k / 2 : Nat) : Int) = _
          rw [← Hik.out]; omega
        rw [e2]; exact hI5
      · rw [eK.out]
        exact HO4.out.aside HI4.out (by decide) 0
    · have hlt' : ¬ (x : Int) < (n1 : Int) := by omega
      have eK : Hid (branchK tw L i (k + 1) = branchK tw L i k) := by
        show branchK tw L i k ++ (if xo (iK i k) < (rowN tw L k).length then [(rowN tw L k).getD (xo (iK i k)) []] else []) = _
        rw [← Hik.out, ← Hx.out, if_neg (by rw [H1.out.num]; exact hlt), List.append_nil]
      clear hlt
      refine wpIn_block ?_
      gi_wp2
      show KeepsOthers W _ ∧ KpG W _ ∧ BrI tw L i w (k + 1) _
      have hB5 := HBw.out.setCell (p := ⟨w.heap.size, 0, none⟩) (Nat.le_refl _) (.int .i64 ((ik : Int) / 2))
      have hK5 := KeepsOthers.setCell W ⟨w.heap.size, 0, none⟩ (.int .i64 ((ik : Int) / 2))
      have hI5 := HBi.out.set 0 (.int .i64 ((ik : Int) / 2))
      refine ⟨hK5, kpG_of (KpT.setCell (show W.heap[w.heap.size]? = _ from HBi.out) (by decide) 0 _) hK5 HG.out hB5, ⟨?_, ⟨_, HV.out.other (a := ⟨w.heap.size, 0, none⟩) (by show w.heap.size + 1 ≠ w.heap.size; omega) _, ?_⟩, hB5⟩⟩
      · have e2 : ((iK i (k + 1) : Nat) : Int) = (ik : Int) / 2 := by
          show ((iK i k / 2 : Nat) : Int) = _
          rw [← Hik.out]; omega
        rw [e2]; exact hI5
      · rw [eK.out]
        exact HO.out.aside HBi.out (by decide) 0
  case done =>
    rintro D W hD hI hDf
    obtain ⟨v, hv, ho⟩ := hI.o
    have c3 := hv.cell (j := 0) (v := v) rfl
    have HO := Lib.hid ho
    have HBl := Lib.hid hI.b
    have HDf := Lib.hid hDf
    clear hI hv ho hDf b0 b1 b2 hbel
    go_wp2_with fail
    refine ⟨by simp, .inl ⟨_, _, rfl, run_takeDeferred HDf.out, ?_⟩⟩
    have hgp := grownBy_putObj' W D (.deferred none)
    have hcell : ∀ r, some D = some r → ∃ o : Obj, W.heap[r]? = some o ∧ o.isCells = false := fun r e => by cases e; exact ⟨_, HDf.out, rfl⟩
    refine ⟨_, by simp [results, Tryd.results18, asAddr, Act.put], v, rfl, ?_, HBl.out.grown hgp HBl.out.size (fun k e => by cases e; exact Nat.le_trans (by omega) hD)⟩
    have e : (some (branchT tw L i)).getD [] = branchK tw L i (nrow n) := by show branchT tw L i = _; unfold branchT; rw [HN.out]
    rw [e]
    exact HO.out.own hgp hcell
  case stop =>
    intro D c k W _ _ h _
    exact h.elim
end Go.Proofs.YtihbmahjdmfjpaaDoor
