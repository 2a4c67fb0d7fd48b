/- What merkle.Root returns. -/
import Derived.Test.YtihbmahjdmfjpaaDoorFi
import Derived.Outline
import Derived.StillTailTactics
namespace Go.Proofs.YtihbmahjdmfjpaaDoor
open Go.RowKit
set_option linter.unusedVariables false
set_option linter.unusedSimpArgs false
set_option maxRecDepth 100000
attribute [local go_sem] Oper.semAt_some
variable {tw : List (BitVec 8) → List (BitVec 8)}
section
variable {P : Program} {l n : Nat} {ops : Array Oper} {rest : List Oper} {op : Oper} {a : Act} {w : World} {Q : Exit → Act → World → Prop}
theorem wpListIn_by (hgd : op.guard = none) (hnd : ∀ c, op.op ≠ .defer c) (h : ∀ K : Act → World → Prop, (∀ a w, wpListIn (Fence.wide.inRound l) n P ops Q rest a w → K a w) → op.wp P a w K Q) : wpListIn (Fence.wide.inRound l) n P ops Q (op :: rest) a w :=
  wpListIn_plain hgd fun K hK => oper_in hnd (h K hK)
theorem wpListIn_load_mid (hgd : op.guard = none) (ty : TypeId) (x : Operand) (ho : op.op = .load ty x)
    (b o : Nat) (hx : a.eval x = .pointer (some ⟨b, o, none⟩)) (cs : List Value) (d : TypeDesc) (hc : w.rangeAt b o cs)
    (hu : P.underlying ty = some d) (hd : d.isRow = true) (hi : (P.info? ty).map (·.size) = some cs.length)
    (h : wpListIn (Fence.wide.inRound l) n P ops Q rest (a.put op.dst (.agg cs.toArray)) w) : wpListIn (Fence.wide.inRound l) n P ops Q (op :: rest) a w :=
  wpListIn_by hgd (by rw [ho]; intro c hc; cases hc) fun _ hK => wp_load_mid ty x ho b o hx cs d hc hu hd hi (hK _ _ h)
theorem wpListIn_store_mid (hgd : op.guard = none) (ty : TypeId) (x y : Operand) (ho : op.op = .store ty x y)
    (b o : Nat) (cells : Array Value) (hx : a.eval x = .pointer (some ⟨b, o, none⟩)) (hy : a.eval y = .agg cells)
    (ht : w.there b o cells.size) (hi : (P.info? ty).map (·.size) = some cells.size) (h1 : cells.all (·.oneCell') = true)
    (h : wpListIn (Fence.wide.inRound l) n P ops Q rest (a.put op.dst undef) (w.setCells b o cells.toList)) : wpListIn (Fence.wide.inRound l) n P ops Q (op :: rest) a w :=
  wpListIn_by hgd (by rw [ho]; intro c hc; cases hc) fun _ hK => wp_store_mid ty x y ho b o cells hx hy ht hi h1 (hK _ _ h)
end
theorem RdN.far {s : Nat} {w : World} {A : Option Addr} {n c : Nat} {L : List (List (BitVec 8))} (h : RdN s w A n c L) (hs : 0 < s) (hi : Nat) (hp : 0 < n) : Far w.heap.size hi A := fun a e => by
  obtain ⟨b, o, e', hb, _⟩ := h.rd.row hs h.len (j := 0) (by rw [h.num]; exact hp)
  rw [e'] at e; cases e
  exact .inl hb
theorem Rd.asides {w : World} {B cb : Nat} {A : Option Addr} {R : List (BitVec 8)} (h : Rd w B A R) (hne : ∀ a, A = some a → a.block ≠ cb) (o : Nat) (us : List Value) : Rd (w.setCells cb o us) B A R := fun hp => by
  obtain ⟨b, o', e, hb, hc⟩ := h hp
  refine ⟨b, o', e, hb, fun j hj => ?_⟩
  rw [World.cell?_of_block (a := ⟨b, o' + j, none⟩) (heap_setCells cb us o b (hne _ e))]
  exact hc j hj
theorem RdN.asides {s : Nat} {w : World} {cb : Nat} {A : Option Addr} {n c : Nat} {L : List (List (BitVec 8))} (h : RdN s w A n c L) (hne : ∀ a, A = some a → a.block ≠ cb) (o : Nat) (us : List Value) : RdN s (w.setCells cb o us) A n c L :=
  ⟨h.len, h.num, by rw [(setCells_same _ _ _ _).2.2.2]; exact h.rd.asides hne o us, h.le, h.mx⟩
def rootK (tw : List (BitVec 8) → List (BitVec 8)) (L : List (List (BitVec 8))) : Nat → List (BitVec 8)
  | 0 => Z32
  | k + 1 => (rowN tw L k).getD 0 []
def mutK (tw : List (BitVec 8) → List (BitVec 8)) (L : List (List (BitVec 8))) : Nat → Bool
  | 0 => false
  | k + 1 => mutK tw L k || repB (rowN tw L k)
def rootT (tw : List (BitVec 8) → List (BitVec 8)) (L : List (List (BitVec 8))) : List (BitVec 8) := rootK tw L (nrow L.length)
def mutT (tw : List (BitVec 8) → List (BitVec 8)) (L : List (List (BitVec 8))) : Bool := mutK tw L (nrow L.length)
theorem keepsO_setCells (b : Nat) : ∀ (us : List Value) (o : Nat) (w : World), KeepsOthers w (w.setCells b o us)
  | [], _, w => KeepsOthers.refl w
  | u :: us, o, w => (KeepsOthers.setCell w ⟨b, o, none⟩ u).trans (keepsO_setCells b us (o + 1) _)
theorem kpT_setCells {Ts : List TypeId} {w : World} {b T : Nat} {vs : List Value} (h : Blk w b T vs) (hT : T ∉ Ts) (o : Nat) (us : List Value) : KpT Ts w (w.setCells b o us) := fun b' cs T' m hb hT' => by
  rw [heap_setCells b us o b' (fun e => ?_)]
  · exact hb
  · subst e; rw [show w.heap[b']? = _ from h] at hb; cases hb; exact hT hT'
/-- Between two rounds of Root. -/
structure ToI (tw : List (BitVec 8) → List (BitVec 8)) (L : List (List (BitVec 8))) (w : World) (k : Nat) (W : World) : Prop where
  r : Blk W w.heap.size 25 (vbs (rootK tw L k))
  l : (rootK tw L k).length = 32
  m : Blk W (w.heap.size + 1) 4 [.bool (mutK tw L k)]
  b : Below w.heap.size w W
theorem ToI.own (tw : List (BitVec 8) → List (BitVec 8)) (L : List (List (BitVec 8))) (w : World) (B : Nat) (hB : w.heap.size ≤ B) : OwnFrom B (ToI tw L w) := fun k W W' row h hg hr =>
  ⟨own_blk h.r hg (fun r e => (hr r e).2), h.l, own_blk h.m hg (fun r e => (hr r e).2), h.b.grown hg h.b.size (fun k e => Nat.le_trans hB (hr k e).1)⟩
/-- Root's results, and the block for the rounds' deferred calls. -/
structure SD (R : List (BitVec 8)) (m : Bool) (w : World) (D : Nat) (wq : World) : Prop where
  r : Blk wq w.heap.size 25 (vbs R)
  m : Blk wq (w.heap.size + 1) 4 [.bool m]
  b : Below w.heap.size w wq
  d : wq.heap[D]? = some (.deferred (some []))
theorem SD.drew {R : List (BitVec 8)} {m : Bool} {w : World} {D : Nat} {W : World} (h : SD R m w D W) : SD R m w D W.drew := ⟨h.r, h.m, h.b.drew, h.d⟩
theorem SD.setr {R : List (BitVec 8)} {m : Bool} {w : World} {D : Nat} {W : World} (h : SD R m w D W) : SD R m w D (W.setCells w.heap.size 0 (vbs R)) :=
  ⟨h.r.setCells _ rfl, Blk.other_setCells (by omega) _ _ _ h.m, below_setCells (Nat.le_refl _) _ _ _ h.b, (keepsO_setCells _ _ _ _).same D _ h.d rfl⟩
theorem SD.setm {R : List (BitVec 8)} {m : Bool} {w : World} {D : Nat} {W : World} (h : SD R m w D W) : SD R m w D (W.setCell ⟨w.heap.size + 1, 0, none⟩ (.bool m)) :=
  ⟨h.r.other (by show w.heap.size ≠ w.heap.size + 1; omega) _, h.m.set 0 _, h.b.setCell (Nat.le_succ _) _, (KeepsOthers.setCell _ _ _).same D _ h.d rfl⟩
def RootPost (tw : List (BitVec 8) → List (BitVec 8)) (L : List (List (BitVec 8))) (w : World) (e : Ending) (w' : World) : Prop :=
  e = .returned (.tuple #[.agg (vbs (rootT tw L)).toArray, .bool (mutT tw L)]) ∧ (rootT tw L).length = 32 ∧ Below w.heap.size w w'
set_option maxHeartbeats 2000000 in
theorem root_any (T : TwC tw) (A : Option Addr) (n c : Nat) (L : List (List (BitVec 8))) (w : World) (hR : RdN 32 w A n c L) (hG : Glob w) (hn : n ≤ 100000) :
    Calls Tryd.prog 11 #[.slice A n c] w (RootPost tw L w) := by
  refine (callsIn_wide (n := 1)).1 (callsIn_of_wp_marks Tryd.func11 rfl trivial (wpIn_wide.2 ?_) rfl)
  simp only [Tryd.ntmps11, List.size_toArray, List.length_cons, List.length_nil, Nat.reduceAdd, Nat.reduceSub, Array.replicate_succ, Array.replicate_zero, List.push_toArray, List.append_toArray, List.nil_append, List.cons_append]
  have hz := zero25
  have HN := Lib.hid hR.num
  have HR := Lib.hid hR
  have HG := Lib.hid hG
  have HT := Lib.hid T
  clear hR hG T
  go_wp2_with (go_at_call 32; (with_reducible refine (rows_val _ _ _ _).mono ?_); rintro e w' ⟨rfl, rfl⟩; dsimp only)
  rw [World.size_alloc, World.size_alloc]
  have hbel : Below w.heap.size w (((w.alloc (.cells (vbs Z32).toArray 25)).alloc (.cells #[.bool false] 4)).alloc (.cells #[.slice A n c] 22)) := (((Below.refl _ _).alloc (Nat.le_refl _) _).alloc (by simp) _).alloc (by simp; omega) _
  have b0 : Blk (((w.alloc (.cells (vbs Z32).toArray 25)).alloc (.cells #[.bool false] 4)).alloc (.cells #[.slice A n c] 22)) w.heap.size 25 (vbs Z32) := ((Blk.new w 25 (vbs Z32).toArray).alloc _).alloc _
  have b1 : Blk (((w.alloc (.cells (vbs Z32).toArray 25)).alloc (.cells #[.bool false] 4)).alloc (.cells #[.slice A n c] 22)) (w.heap.size + 1) 4 [.bool false] := by
    have := (Blk.new (w.alloc (.cells (vbs Z32).toArray 25)) 4 #[.bool false]).alloc (.cells #[.slice A n c] 22)
    simpa using this
  have b2 : Blk (((w.alloc (.cells (vbs Z32).toArray 25)).alloc (.cells #[.bool false] 4)).alloc (.cells #[.slice A n c] 22)) (w.heap.size + 1 + 1) 22 [.slice A n c] := by
    have := Blk.new ((w.alloc (.cells (vbs Z32).toArray 25)).alloc (.cells #[.bool false] 4)) 22 #[.slice A n c]
    simpa using this
  generalize (((w.alloc (.cells (vbs Z32).toArray 25)).alloc (.cells #[.bool false] 4)).alloc (.cells #[.slice A n c] 22)) = W0 at hbel b0 b1 b2 ⊢
  have hsz := b1.lt
  refine wp_range (gf := 45) (lb := #[.pointer (some ⟨w.heap.size + 1 + 1, 0, none⟩)]) rfl (enters_of Tryd.func45 (by kernel_rfl) rfl)
    (rows_seq HT.out A n c _ L W0 b2 (HR.out.below hbel) (HG.out.below hbel) hn w.heap.size (HR.out.far (by omega) _)) KpG.trans KpG.putObj (Below.refl _ _) (fun k vs W h => by obtain ⟨_, _, _, _, _, _, e, _⟩ := h; rw [e]; rfl)
    (fun k vs W l o o' h hl ho => by
      obtain ⟨A1, n1, c1, A2, n2, c2, e, h1, h2, h3⟩ := h
      exact ⟨A1, n1, c1, A2, n2, c2, e, h1.own (grownBy_putObj' W l o') (fun r e => by cases e; exact ⟨o, hl, ho⟩), h2.own (grownBy_putObj' W l o') (fun r e => by cases e; exact ⟨o, hl, ho⟩), h3⟩)
    (ToI tw L w) (fun _ _ _ => False) (ToI.own tw L w _ hbel.size) (fun c k W W' row h _ _ => h) ⟨b0, rfl, b1, hbel⟩
    (fun vs => { tmps := #[.slice A n c, undef, .pointer (some ⟨w.heap.size, 0, none⟩), .pointer (some ⟨w.heap.size + 1, 0, none⟩), vs.getD 0 undef, .slice A n c, .func (.func 45) #[] #[.pointer (some ⟨w.heap.size + 1 + 1, 0, none⟩)], vs.getD 0 undef, vs.getD 1 undef, undef, undef, undef, undef, undef, undef, undef, undef, undef, undef], defers := [] }) ?assign ?body ?done ?stop
  case assign =>
    intro l k vs W K hvs hK
    obtain ⟨A1, n1, c1, A2, n2, c2, rfl, h1, h2, h3⟩ := hvs
    gi_wp2
    exact hK
  case body =>
    rintro l k vs W hI hk ⟨A1, n1, c1, A2, n2, c2, rfl, h1, h2, h3⟩
    have hn1 : n1 = lenN L.length k := by rw [← h1.num, rowN_len]
    have hpos : 0 < n1 := by rw [hn1]; exact (lenN_rows L.length L.length (Nat.le_refl _)).1 k (by rw [HN.out]; exact hk)
    have hle : n1 ≤ 100000 := by rw [hn1]; have := lenN_le L.length k; have := HN.out; omega
    have hpos' : (0 : Int) < (n1 : Int) := by omega
    obtain ⟨b, o, rfl, hb, hrg⟩ := h1.rd.row (by omega) h1.len (j := 0) (by rw [h1.num]; exact hpos)
    obtain ⟨X, hX⟩ : ∃ X, X = (rowN tw L k).getD 0 [] := ⟨_, rfl⟩
    have hX32 : X.length = 32 := by rw [hX]; exact h1.len.at (by rw [h1.num]; exact hpos)
    have rX : W.rangeAt b o (vbs X) := by
      have := hrg 0 (by rw [h1.num]; exact hpos)
      rw [← hX, Nat.zero_mul, Nat.add_zero] at this; exact this
    have RX := Lib.hid rX
    have IX := Lib.hid (i25' (vs := vbs X) (by rw [vbs_len]; exact hX32))
    have IA := Lib.hid (i25a hX32)
    have KT := Lib.hid (there_E hI.r (n := 32) (by rw [vbs_len]; exact hI.l) hX32)
    have hs1 : Blk (W.setCells w.heap.size 0 (vbs X)) w.heap.size 25 (vbs X) := hI.r.setCells _ (by rw [vbs_len, vbs_len, hI.l]; exact hX32)
    have hm1 : Blk (W.setCells w.heap.size 0 (vbs X)) (w.heap.size + 1) 4 [.bool (mutK tw L k)] := Blk.other_setCells (by omega) _ _ _ hI.m
    have hb1 : Below w.heap.size w (W.setCells w.heap.size 0 (vbs X)) := below_setCells (Nat.le_refl _) _ _ _ hI.b
    have hbne : b ≠ w.heap.size := by
      have := h3 hpos _ rfl
      have hb' : b < w.heap.size ∨ W0.heap.size ≤ b := this
      omega
    have h1s := h1.asides (cb := w.heap.size) (fun a e => by cases e; exact hbne) 0 (vbs X)
    have HP := Lib.hid (repeats_any (some ⟨b, o, none⟩) n1 c1 (rowN tw L k) (W.setCells w.heap.size 0 (vbs X)) h1s.len h1s.num h1s.rd hle h1s.le)
    have HKO : Hid (KeepsOthers W (W.setCells w.heap.size 0 (vbs X))) := keepsO_setCells _ _ _ _
    have HKT : Hid (KpT [57] W (W.setCells w.heap.size 0 (vbs X))) := kpT_setCells hI.r (by decide) _ _
    have HX := Lib.hid hX
    have HX32 := Lib.hid hX32
    have HS := Lib.hid hs1
    have HM := Lib.hid hm1
    have HB := Lib.hid hb1
    have HI := Lib.hid hI
    have H1 := Lib.hid h1
    clear hn1 hpos hX hX32 rX hrg hs1 hm1 hb1 hI h1 h2 b0 b1 b2 hbel h3 h1s hbne hz
    have hg0 : (#[Value.slice (some ⟨b, o, none⟩) n1 c1, .slice A2 n2 c2] : Array Value).getD 0 undef = .slice (some ⟨b, o, none⟩) n1 c1 := rfl
    have hg1 : (#[Value.slice (some ⟨b, o, none⟩) n1 c1, .slice A2 n2 c2] : Array Value).getD 1 undef = .slice A2 n2 c2 := rfl
    rw [hg0, hg1]
    clear hg0 hg1
    refine wpIn_block ?_
    refine wpIn_seq_k fun K hK => ?_
    have HKK := Lib.hid hK
    clear hK
    gi_wp2_with (first
      | (refine wpListIn_load_mid (op := ⟨some 11, _, _, _, _, _⟩) rfl 25 (.tmp 10) rfl b o rfl (vbs X) _ RX.out Tryd.underlying25 rfl IX.out ?_)
      | (refine wpListIn_store_mid (op := ⟨none, _, _, _, _, _⟩) rfl 25 (.tmp 2) (.tmp 11) rfl w.heap.size 0 (vbs X).toArray rfl rfl KT.out IA.out (all_oneCell_toArray (vbs_one _)) ?_))
    refine HKK.out _ _ ?_
    have eR : vbs (rootK tw L (k + 1)) = vbs X := by rw [HX.out]; rfl
    have eL : (rootK tw L (k + 1)).length = 32 := by show ((rowN tw L k).getD 0 []).length = 32; rw [← HX.out]; exact HX32.out
    have HER := Lib.hid eR
    have HEL := Lib.hid eL
    obtain ⟨q, hq⟩ : ∃ q, q = repB (rowN tw L k) := ⟨_, rfl⟩
    obtain ⟨t, ht⟩ : ∃ t, t = mutK tw L k := ⟨_, rfl⟩
    have eM : mutK tw L (k + 1) = (t || q) := by rw [ht, hq]; rfl
    have HEM := Lib.hid eM
    rw [← hq] at HP
    rw [← ht] at HM
    clear HKK RX KT IA IX H1 eR eL eM hq ht
    generalize (W.setCells w.heap.size 0 (vbs X)) = W1 at HS HM HB HP HKO HKT ⊢
    have c1 := HM.out.cell (j := 0) (v := .bool t) rfl
    have f1 := HM.out.free 0
    have hs1 := HB.out.size
    cases t with
    | true =>
      gi_wp2
      refine ⟨trivial, ?_⟩
      gi_wp2
      show KeepsOthers W _ ∧ KpG W _ ∧ ToI tw L w (k + 1) _
      have hbw : Below w.heap.size w (W1.setCell ⟨w.heap.size + 1, 0, none⟩ (.bool true)) := HB.out.setCell (Nat.le_succ _) _
      refine ⟨HKO.out.trans (KeepsOthers.setCell _ _ _), ⟨HKT.out.trans (KpT.setCell (show W1.heap[w.heap.size + 1]? = _ from HM.out) (by decide) _ _), fun _ => HG.out.below hbw, Nat.le_trans HKO.out.size (KeepsOthers.setCell W1 ⟨w.heap.size + 1, 0, none⟩ (.bool true)).size⟩, ⟨by rw [HER.out]; exact HS.out.other (by show w.heap.size ≠ w.heap.size + 1; omega) _, HEL.out, by rw [HEM.out]; exact HM.out.set 0 _, hbw⟩⟩
    | false =>
      gi_wp2
      refine ⟨trivial, rfl, (CallsIn.inRound l (callsIn_wide.2 HP.out)).mono ?_⟩
      rintro e W2 ⟨rfl, hb⟩
      have hM2 := HM.out.below hb HM.out.lt
      have c3 := hM2.cell (j := 0) (v := .bool false) rfl
      have f3 := hM2.free 0
      have HM2 := Lib.hid hM2
      have HB2 := Lib.hid hb
      clear hb hM2 c1 f1
      dsimp only
      gi_wp2
      show KeepsOthers W _ ∧ KpG W _ ∧ ToI tw L w (k + 1) _
      have hbw : Below w.heap.size w (W2.setCell ⟨w.heap.size + 1, 0, none⟩ (.bool q)) := (HB.out.trans (HB2.out.mono hs1)).setCell (Nat.le_succ _) _
      have hko : KeepsOthers W1 W2 := .of_grownBy (below_grown HB2.out) (fun j o e => by cases e)
      refine ⟨(HKO.out.trans hko).trans (KeepsOthers.setCell _ _ _), ⟨(HKT.out.trans (KpT.below HB2.out)).trans (KpT.setCell (show W2.heap[w.heap.size + 1]? = _ from HM2.out) (by decide) _ _), fun _ => HG.out.below hbw, Nat.le_trans (Nat.le_trans HKO.out.size hko.size) (KeepsOthers.setCell W2 ⟨w.heap.size + 1, 0, none⟩ (.bool q)).size⟩, ⟨by rw [HER.out]; exact (HS.out.below HB2.out HS.out.lt).other (by show w.heap.size ≠ w.heap.size + 1; omega) _, HEL.out, by rw [HEM.out]; exact HM2.out.set 0 _, hbw⟩⟩
  case done =>
    rintro D W hD hI hDf
    have HS : Hid (SD (rootT tw L) (mutT tw L) w D W) := by
      have e1 : nrow n = nrow L.length := by rw [HN.out]
      rw [e1] at hI
      exact ⟨hI.r, hI.m, hI.b, hDf⟩
    have hl : (rootT tw L).length = 32 := by have := hI.l; rw [← HN.out] at this; exact this
    have HL := Lib.hid hl
    obtain ⟨R, hR⟩ : ∃ R, R = rootT tw L := ⟨_, rfl⟩
    obtain ⟨m, hm⟩ : ∃ m, m = mutT tw L := ⟨_, rfl⟩
    rw [← hR] at HL
    rw [← hR, ← hm] at HS
    have HRe := Lib.hid hR
    have Hme := Lib.hid hm
    have IR := Lib.hid (i25' (vs := vbs R) (by rw [vbs_len]; exact HL.out))
    have IA := Lib.hid (i25a HL.out)
    clear hI hDf hl hR hm b0 b1 b2 hbel hz
    go_upto_region 5 with fail
    refine wp_calm ?_
    refine wp_region_but (z := 999) (SD R m w D) (by kernel_rfl) ?_
    have hS : (SD R m w D) W.drew := HS.out.drew
    refine AnyBut.takeE (i := 0) (v := .agg (vbs R).toArray) rfl (by kernel_rfl) (by kernel_rfl) (by kernel_rfl) (by kernel_rfl) (fun _ _ _ h => h) ?_ hS ?_
    · exact yieldsIf_load_mid (by rfl) 25 (.tmp 2) rfl (w.heap.size) 0 rfl (vbs R) _ (fun _ h => h.r.range) Tryd.underlying25 rfl IR.out
    try simp only [Act.put, List.setIfInBounds_toArray, List.set_cons_zero, List.set_cons_succ, List.getElem_toArray, List.getElem_cons_zero, List.getElem_cons_succ]
    refine AnyBut.takeE (i := 1) (v := .bool m) rfl (by kernel_rfl) (by kernel_rfl) (by kernel_rfl) (by kernel_rfl) (fun _ _ _ h => h) (Or.inl ⟨by rfl, ?_⟩) hS ?_
    · (intro wq hq; have hc := hq.m.cell (j := 0) (v := .bool m) rfl; go_simp)
    try simp only [Act.put, List.setIfInBounds_toArray, List.set_cons_zero, List.set_cons_succ, List.getElem_toArray, List.getElem_cons_zero, List.getElem_cons_succ]
    refine AnyBut.gone (i := 2) (by kernel_rfl) rfl (by rfl) (fun K hK => ?_)
    refine wp_store_mid 25 (.tmp 2) (.tmp 17) rfl w.heap.size 0 (vbs R).toArray rfl rfl (there_E hS.r (by rw [vbs_len]; exact HL.out) HL.out) IA.out (all_oneCell_toArray (vbs_one _)) ?_
    have hS5 := hS.setr
    rw [List.toList_toArray]
    generalize (W.drew.setCells w.heap.size 0 (vbs R)) = W5 at hS5 ⊢
    refine hK _ _ (fun _ => hS5) ?_
    clear hK K
    try simp only [Act.put, List.setIfInBounds_toArray, List.set_cons_zero, List.set_cons_succ, List.getElem_toArray, List.getElem_cons_zero, List.getElem_cons_succ]
    have c5 := hS5.m.cell (j := 0) (v := .bool m) rfl
    have f5 := hS5.m.free 0
    refine AnyBut.gone (i := 3) (by kernel_rfl) rfl (by rfl) (fun K hK => ?_)
    go_simp
    have hS6 := hS5.setm
    generalize (W5.setCell ⟨w.heap.size + 1, 0, none⟩ (.bool m)) = W6 at hS6 ⊢
    refine hK _ _ (fun _ => hS6) ?_
    clear hK K
    try simp only [Act.put, List.setIfInBounds_toArray, List.set_cons_zero, List.set_cons_succ, List.getElem_toArray, List.getElem_cons_zero, List.getElem_cons_succ]
    refine AnyBut.done (by kernel_rfl) ?_ _
    try dsimp only [Exit.then]
    clear hS hS5 c5 f5
    go_wp2_with fail
    refine ⟨by simp, .inl ⟨_, _, rfl, run_takeDeferred hS6.d, ?_⟩⟩
    have hgp := grownBy_putObj' W6 D (.deferred none)
    have hcl : ∀ r, some D = some r → ∃ o : Obj, W6.heap[r]? = some o ∧ o.isCells = false := fun r e => by cases e; exact ⟨_, hS6.d, rfl⟩
    have B1 := own_blk hS6.r hgp hcl
    have B2 := own_blk hS6.m hgp hcl
    have hlv := run_loadVar_mid (P := Tryd.prog) (W6.putObj D (.deferred none)) w.heap.size 0 25 _ _ B1.range Tryd.underlying25 rfl IR.out
    have c7 := B2.cell (j := 0) (v := .bool m) rfl
    refine ⟨.tuple #[.agg (vbs R).toArray, .bool m], ?_, by rw [← HRe.out, ← Hme.out], by rw [← HRe.out]; exact HL.out, hS6.b.grown hgp hS6.b.size (fun k e => by cases e; exact Nat.le_trans (by omega) hD)⟩
    have hlm : (loadVar 4 ⟨w.heap.size + 1, 0, none⟩).run Tryd.prog (W6.putObj D (.deferred none)) = .ok (.bool m) (W6.putObj D (.deferred none)) := by simp [go_sem, c7]
    clear c7
    simp [results, Tryd.results11, asAddr, Act.put, hlv, hlm]
  case stop =>
    intro D c k W _ _ h _
    exact h.elim
end Go.Proofs.YtihbmahjdmfjpaaDoor
