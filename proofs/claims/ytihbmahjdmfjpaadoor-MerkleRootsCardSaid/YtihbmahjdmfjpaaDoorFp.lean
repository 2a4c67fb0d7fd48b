/- What merkle.Fold returns. -/
import Derived.Test.YtihbmahjdmfjpaaDoorFm
import Derived.Test.YtihbmahjdmfjpaaDoorFq
import Derived.Outline
import Derived.StillTailTactics
namespace Go.Proofs.YtihbmahjdmfjpaaDoor
open Go.RowKit
set_option linter.unusedVariables false
set_option linter.unusedSimpArgs false
set_option maxRecDepth 100000
variable {tw : List (BitVec 8) → List (BitVec 8)}
theorem sl22_1 (b o n c : Nat) (hn : 0 < n) (w : World) : (Instr.slice 22 (.slice (some ⟨b, o, none⟩) n c) (some (.int .i64 1)) none none).run Tryd.prog w = .ok (.slice (if c = 1 then some ⟨b, o, none⟩ else some ⟨b, o + 32, none⟩) (n - 1) (c - 1)) w := by
  have hs : (sizeOf (Tryd.prog.elem 22)).run Tryd.prog w = .ok 32 w := by kernel_rfl
  rw [run_slice_l w 22 (some ⟨b, o, none⟩) n c (by kernel_rfl) .i64 1 (by omega) (by omega), hs]
  simp [Result.andThen, sliced, Addr.add_mid]
theorem RdN.rest {w : World} {b o n c : Nat} {y : List (BitVec 8)} {r : List (List (BitVec 8))} (h : RdN 32 w (some ⟨b, o, none⟩) n c (y :: r)) : RdN 32 w (if c = 1 then some ⟨b, o, none⟩ else some ⟨b, o + 32, none⟩) (n - 1) (c - 1) r := by
  have hn := h.num
  have hle := h.le
  have hy := h.len y (by simp)
  simp at hn
  refine ⟨fun x hx => h.len x (by simp [hx]), by omega, fun hp => ?_, by omega, by have := h.mx; omega⟩
  have hr : 0 < r.length := by
    cases r with
    | nil => simp at hp
    | cons a r => simp
  rw [if_neg (by omega)]
  obtain ⟨b', o', e, hb, hc⟩ := h.rd (by rw [List.flatten_cons, List.length_append, hy]; omega)
  cases e
  refine ⟨b, o + 32, rfl, hb, fun j hj => ?_⟩
  have := hc (32 + j) (by rw [List.flatten_cons, List.length_append, hy]; omega)
  rw [show o + 32 + j = o + (32 + j) by omega, this, List.flatten_cons]
  simp [List.getD, List.getElem?_append_right (show y.length ≤ 32 + j by omega), hy]
/-- Has the i-th of n a neighbour? -/
def sib (i n : Nat) : Bool := decide (i % 2 = 1) || decide (i + 1 < n)
def foldT (tw : List (BitVec 8) → List (BitVec 8)) : Nat → List (BitVec 8) → Nat → Nat → List (List (BitVec 8)) → Option (List (BitVec 8))
  | 0, h, _, _, br => if br = [] then some h else none
  | f + 1, h, i, n, br =>
    if n ≤ 1 then (if br = [] then some h else none)
    else if sib i n then
      match br with
      | [] => none
      | b :: r => foldT tw f (tw (if i % 2 = 0 then h ++ b else b ++ h)) (i / 2) ((n + 1) / 2) r
    else foldT tw f (tw (h ++ h)) (i / 2) ((n + 1) / 2) br
def SRy (b o : Nat) (y : List (BitVec 8)) (wq : World) : Prop := wq.rangeAt b o (vbs y)
theorem built_0 : Tryd.prog.built 25 [] = some (vbs Z32).toArray := by kernel_rfl
def foldI (tw : List (BitVec 8) → List (BitVec 8)) (h : List (BitVec 8)) (i n : Int) (br : List (List (BitVec 8))) : Option (List (BitVec 8)) :=
  if 0 ≤ i ∧ i < n ∧ n ≤ 1048576 then foldT tw n.toNat h i.toNat n.toNat br else none
def FoldPost (r : Option (List (BitVec 8))) (w : World) (e : Ending) (w' : World) : Prop :=
  e = .returned (.tuple #[.agg (vbs (r.getD Z32)).toArray, .bool r.isSome]) ∧ (r.getD Z32).length = 32 ∧ Below w.heap.size w w'
/-- Between two rounds of Fold. -/
def FoRel (tw : List (BitVec 8) → List (BitVec 8)) (R : Option (List (BitVec 8))) (w : World) (iv nv bv : Value) (wr : World) : Prop :=
  ∃ (f i n : Nat) (h : List (BitVec 8)) (br : List (List (BitVec 8))) (A : Option Addr) (nb cb : Nat), iv = .int .i64 (i : Int) ∧ nv = .int .i64 (n : Int) ∧ bv = .slice A nb cb ∧
    HBx wr w.heap.size h ∧ HBx wr (w.heap.size + 1) Z32 ∧ Below w.heap.size w wr ∧ RdN 32 w A nb cb br ∧ i < n ∧ n ≤ 1048576 ∧ n ≤ f ∧ foldT tw f h i n br = R
set_option maxHeartbeats 4000000 in
theorem fold_any (T : TwC tw) (h : List (BitVec 8)) (hh : h.length = 32) (i n : Int) (A : Option Addr) (nb cb : Nat) (br : List (List (BitVec 8))) (w : World) (hi : -9223372036854775808 ≤ i ∧ i ≤ 9223372036854775807) (hn : -9223372036854775808 ≤ n ∧ n ≤ 9223372036854775807) (hR : RdN 32 w A nb cb br) (hG : Glob w) :
    Calls Tryd.prog 20 #[.agg (vbs h).toArray, .int .i64 i, .int .i64 n, .slice A nb cb] w (FoldPost (foldI tw h i n br) w) := by
  have hz := zero25
  have HT := Lib.hid T
  have HG := Lib.hid hG
  have HR := Lib.hid hR
  have HH := Lib.hid hh
  have hbel : Below w.heap.size w ((w.alloc (.cells (vbs h).toArray 25)).alloc (.cells (vbs Z32).toArray 25)) := ((Below.refl _ _).alloc (Nat.le_refl _) _).alloc (by simp) _
  have b0 := (HBx.new w h hh).alloc (.cells (vbs Z32).toArray 25)
  have b1 : HBx ((w.alloc (.cells (vbs h).toArray 25)).alloc (.cells (vbs Z32).toArray 25)) (w.heap.size + 1) Z32 := by
    have := HBx.new (w.alloc (.cells (vbs h).toArray 25)) Z32 rfl
    rwa [World.size_alloc] at this
  have H0 := Lib.hid b0
  have H1 := Lib.hid b1
  have HB := Lib.hid hbel
  clear T hG hR hh b0 b1 hbel
  by_cases hc : 0 ≤ i ∧ i < n ∧ n ≤ 1048576
  · obtain ⟨hc1, hc2, hc3⟩ := hc
    have e : foldI tw h i n br = foldT tw n.toNat h i.toNat n.toNat br := by unfold foldI; rw [if_pos ⟨hc1, hc2, hc3⟩]
    rw [e]
    obtain ⟨i', rfl⟩ : ∃ k : Nat, i = k := ⟨i.toNat, by omega⟩
    obtain ⟨n', rfl⟩ : ∃ k : Nat, n = k := ⟨n.toNat, by omega⟩
    rw [Int.toNat_natCast, Int.toNat_natCast]
    obtain ⟨R, hRR⟩ : ∃ R, R = foldT tw n' h i' n' br := ⟨_, rfl⟩
    rw [← hRR]
    have HRR := Lib.hid hRR
    have e1 : decide ((i' : Int) < 0) = false := by simp
    have e2 : decide (n' ≤ i') = false := by simp; omega
    have e3 : decide ((1048576 : Int) < (n' : Int)) = false := by simp; omega
    have e4 : ¬ (i' : Int) < 0 := by omega
    clear hRR e
    go_enter Tryd.func20, Tryd.ntmps20
    go_wp2_with fail
    clear e1 e2 e3 e4
    generalize ((w.alloc (.cells (vbs h).toArray 25)).alloc (.cells (vbs Z32).toArray 25)) = W0 at H0 H1 HB ⊢
    go_loopw [1, 2, 3] (fun iv nv bv wr => FoRel tw R w iv nv bv wr) (fun _ nv _ _ => (intOf nv).toNat)
    case atStart => exact ⟨n', i', n', h, br, A, nb, cb, rfl, rfl, rfl, H0.out, H1.out, HB.out, HR.out, by omega, by omega, Nat.le_refl _, HRR.out.symm⟩
    case round =>
      obtain ⟨f, i, n, g, bs, A1, n1, c1, rfl, rfl, rfl, h0, h1, hb, hr, hin, hn20, hnf, hfo⟩ := hrel
      obtain ⟨f, rfl⟩ : ∃ k, f = k + 1 := ⟨f - 1, by omega⟩
      have G0 := Lib.hid h0
      have G1 := Lib.hid h1
      have GB := Lib.hid hb
      have GR := Lib.hid hr
      have GF := Lib.hid hfo
      have hszw : w.heap.size + 1 < wr.heap.size := h1.1.lt
      have RG := Lib.hid h0.1.range
      have IG := Lib.hid h0.inf
      clear h0 h1 hb hr hfo H0 H1 HB HR HRR HH hc1 hc2 hc3
      have HB0 := Lib.hid built_0
      by_cases hn1 : n ≤ 1
      · have hn1' : ¬ (1 : Int) < (n : Int) := by omega
        by_cases hn0 : n1 = 0
        · have hbs : bs = [] := List.eq_nil_of_length_eq_zero (by rw [GR.out.num]; exact hn0)
          have hR0 : R = some g := by rw [← GF.out, hbs]; simp [foldT, hn1]
          subst hn0 hR0
          have hpos' : ¬ (0 : Int) < ((0 : Nat) : Int) := by simp
          have GL := Lib.hid G0.out.2
          clear hn1 hbs
          have KTf := Lib.hid (G1.out.kt GL.out)
          have IAf := Lib.hid (i25a GL.out)
          have Bf := Lib.hid (G1.out.set GL.out)
          have BBf := Lib.hid (below_setCells (B := w.heap.size) (b := w.heap.size + 1) (by omega) (vbs g) 0 _ GB.out)
          go_wp2_with (first
            | ((with_reducible show wpList _ _ _ ((⟨some 59, _, _, _, _, _⟩ : Oper) :: _) _ _); with_reducible refine wpList_load_mid rfl 25 (.tmp 4) rfl w.heap.size 0 rfl (vbs g) _ RG.out Tryd.underlying25 rfl IG.out ?_)
            | ((with_reducible show wpList _ _ _ ((⟨none, _, _, _, _, _⟩ : Oper) :: _) _ _); with_reducible refine wpList_store_mid rfl 25 (.tmp 8) (.tmp 59) rfl (w.heap.size + 1) 0 (vbs g).toArray rfl rfl KTf.out IAf.out (all_oneCell_toArray (vbs_one _)) ?_))
          have hlv := run_loadVar_mid (P := Tryd.prog) (wr.setCells (w.heap.size + 1) 0 (vbs g)) (w.heap.size + 1) 0 25 _ _ Bf.out.1.range Tryd.underlying25 rfl Bf.out.inf
          exact bodyPost_ret (v := .tuple #[.agg (vbs g).toArray, .bool true]) (by simp [results, Tryd.results20, asAddr, Act.put, hlv]) rfl ⟨rfl, GL.out, BBf.out⟩
        · have hbs : bs ≠ [] := fun e => hn0 (by rw [← GR.out.num, e]; rfl)
          have hR0 : R = none := by rw [← GF.out]; simp [foldT, hn1, hbs]
          subst hR0
          have hpos' : (0 : Int) < (n1 : Int) := by omega
          clear hn1 hbs hn0
          have KTf := Lib.hid (G1.out.kt Z32_len)
          have IAf := Lib.hid (i25a Z32_len)
          have Bf := Lib.hid (G1.out.set Z32_len)
          have BBf := Lib.hid (below_setCells (B := w.heap.size) (b := w.heap.size + 1) (by omega) (vbs Z32) 0 _ GB.out)
          go_wp2_with (first
            | ((with_reducible show wpList _ _ _ ((⟨some 58, _, _, _, _, _⟩ : Oper) :: _) _ _); refine wpList_hash rfl _ rfl [] Z32 rfl HB0.out ?_)
            | ((with_reducible show wpList _ _ _ ((⟨none, _, _, _, _, _⟩ : Oper) :: _) _ _); with_reducible refine wpList_store_mid rfl 25 (.tmp 8) (.tmp 58) rfl (w.heap.size + 1) 0 (vbs Z32).toArray rfl rfl KTf.out IAf.out (all_oneCell_toArray (vbs_one _)) ?_))
          have hlv := run_loadVar_mid (P := Tryd.prog) (wr.setCells (w.heap.size + 1) 0 (vbs Z32)) (w.heap.size + 1) 0 25 _ _ Bf.out.1.range Tryd.underlying25 rfl Bf.out.inf
          exact bodyPost_ret (v := .tuple #[.agg (vbs Z32).toArray, .bool false]) (by simp [results, Tryd.results20, asAddr, Act.put, hlv]) rfl ⟨rfl, Z32_len, BBf.out⟩
      · have hn1' : (1 : Int) < (n : Int) := by omega
        have KT := Lib.hid ((HBx.new wr Z32 rfl).kt G0.out.2)
        have IA := Lib.hid (i25a G0.out.2)
        go_upto_region 6 with (first
          | ((with_reducible show wpList _ _ _ ((⟨some 30, _, _, _, _, _⟩ : Oper) :: _) _ _); with_reducible refine wpList_load_mid rfl 25 (.tmp 4) rfl w.heap.size 0 rfl (vbs g) _ RG.out Tryd.underlying25 rfl IG.out ?_)
          | ((with_reducible show wpList _ _ _ ((⟨none, _, _, _, _, _⟩ : Oper) :: _) _ _); with_reducible refine wpList_store_mid rfl 25 (.tmp 10) (.tmp 30) rfl wr.heap.size 0 (vbs g).toArray rfl rfl KT.out IA.out (all_oneCell_toArray (vbs_one _)) ?_))
        have B5 := HBx.laid wr G0.out.2
        have bA := below_laidT wr 25 Z32 g
        generalize ((wr.alloc (.cells (vbs Z32).toArray 25)).setCells wr.heap.size 0 (vbs g)) = W5 at B5 bA ⊢
        have HB5 := Lib.hid B5
        have G05 := Lib.hid (G0.out.below bA)
        have G15 := Lib.hid (G1.out.below bA)
        have GB5 := Lib.hid (GB.out.trans (bA.mono GB.out.size))
        clear B5 bA
        generalize wr.heap.size = g5 at HB5 hszw ⊢
        clear KT RG G0 G1 GB hz
        obtain ⟨x, hx⟩ : ∃ x, x = if i % 2 = 0 then i + 1 else i - 1 := ⟨_, rfl⟩
        have hxb := xor_i64 i (by omega)
        rw [← hx] at hxb
        have Hn1 := Lib.hid hn1
        have G0L := Lib.hid G05.out.2
        by_cases hsib : x < n
        · have hsib' : (x : Int) < (n : Int) := by omega
          have Hsib : Hid (sib i n = true) := by
            show sib i n = true
            unfold sib
            by_cases hp : i % 2 = 0
            · rw [if_pos hp] at hx; simp; omega
            · simp; omega
          clear hx hsib hn1
          cases bs with
          | nil =>
            have hn0 : n1 = 0 := GR.out.num.symm
            have hR0 : R = none := by rw [← GF.out]; simp [foldT, Hn1.out, Hsib.out]
            subst hn0
            subst hR0
            have KTf := Lib.hid (G15.out.kt Z32_len)
            have IAf := Lib.hid (i25a Z32_len)
            have Bf := Lib.hid (G15.out.set Z32_len)
            have BBf := Lib.hid (below_setCells (B := w.heap.size) (b := w.heap.size + 1) (by omega) (vbs Z32) 0 _ GB5.out)
            go_wp2_with (first
              | ((with_reducible show wpList _ _ _ ((⟨some 38, _, _, _, _, _⟩ : Oper) :: _) _ _); refine wpList_hash rfl _ rfl [] Z32 rfl HB0.out ?_)
              | ((with_reducible show wpList _ _ _ ((⟨none, _, _, _, _, _⟩ : Oper) :: _) _ _); with_reducible refine wpList_store_mid rfl 25 (.tmp 8) (.tmp 38) rfl (w.heap.size + 1) 0 (vbs Z32).toArray rfl rfl KTf.out IAf.out (all_oneCell_toArray (vbs_one _)) ?_))
            have hlv := run_loadVar_mid (P := Tryd.prog) (W5.setCells (w.heap.size + 1) 0 (vbs Z32)) (w.heap.size + 1) 0 25 _ _ Bf.out.1.range Tryd.underlying25 rfl Bf.out.inf
            exact bodyPost_ret (v := .tuple #[.agg (vbs Z32).toArray, .bool false]) (by simp [results, Tryd.results20, asAddr, Act.put, hlv]) rfl ⟨rfl, Z32_len, BBf.out⟩
          | cons y r =>
            have hnp : 0 < n1 := by have := GR.out.num; simp at this; omega
            have hne : ((n1 : Int) == 0) = false := by simp; omega
            obtain ⟨b, o, rfl, hbb, hpk⟩ := GR.out.pick (by omega) hnp
            have hy32 : y.length = 32 := GR.out.len y (by simp)
            have RY := Lib.hid (show W5.rangeAt b o (vbs y) from fun j u hj => (GB5.out.cell (p := ⟨b, o + j, none⟩) hbb).trans (by have := (hpk 0 hnp).1 j u hj; rwa [Nat.zero_mul, Nat.add_zero] at this))
            have GYL := Lib.hid hy32
            have IY := Lib.hid (i25' (vs := vbs y) (by rw [vbs_len]; exact hy32))
            have IYa := Lib.hid (i25a hy32)
            have KY := Lib.hid (HB5.out.kt hy32)
            have GRr := Lib.hid GR.out.rest
            have hsl := sl22_1 b o n1 c1 hnp
            generalize (if c1 = 1 then some (⟨b, o, none⟩ : Addr) else some ⟨b, o + 32, none⟩) = A2 at GRr hsl
            have hpos' : (0 : Int) < (n1 : Int) := by omega
            clear hpk hy32
            go_upto_region 9 with fail
            refine wp_calm ?_
            refine wp_region_but (z := 999) (SRy b o y) (by kernel_rfl) ?_
            have hS : (SRy b o y) W5.drew := RY.out
            refine AnyBut.takeE (i := 0) (v := ?_) rfl (by kernel_rfl) (by kernel_rfl) (by kernel_rfl) (by kernel_rfl) (fun _ _ _ h => h) (Or.inl ⟨by rfl, ?_⟩) hS ?_
            rotate_left
            · (intro wq hq; go_simp; try with_reducible rfl)
            try simp only [Act.put, List.setIfInBounds_toArray, List.set_cons_zero, List.set_cons_succ, List.getElem_toArray, List.getElem_cons_zero, List.getElem_cons_succ]
            refine AnyBut.takeE (i := 1) (v := .pointer (some ⟨b, o, none⟩)) rfl (by kernel_rfl) (by kernel_rfl) (by kernel_rfl) (by kernel_rfl) (fun _ _ _ h => h) (Or.inl ⟨by rfl, ?_⟩) hS ?_
            · (intro wq hq; go_simp)
            try simp only [Act.put, List.setIfInBounds_toArray, List.set_cons_zero, List.set_cons_succ, List.getElem_toArray, List.getElem_cons_zero, List.getElem_cons_succ]
            refine AnyBut.takeE (i := 2) (v := .agg (vbs y).toArray) rfl (by kernel_rfl) (by kernel_rfl) (by kernel_rfl) (by kernel_rfl) (fun _ _ _ h => h) ?_ hS ?_
            · exact yieldsIf_load_mid (by rfl) 25 (.tmp 40) rfl (b) o rfl (vbs y) _ (fun _ h => h) Tryd.underlying25 rfl IY.out
            try simp only [Act.put, List.setIfInBounds_toArray, List.set_cons_zero, List.set_cons_succ, List.getElem_toArray, List.getElem_cons_zero, List.getElem_cons_succ]
            refine AnyBut.takeE (i := 3) (v := ?_) rfl (by kernel_rfl) (by kernel_rfl) (by kernel_rfl) (by kernel_rfl) (fun _ _ _ h => h) (Or.inl ⟨by rfl, ?_⟩) hS ?_
            rotate_left
            · (intro wq hq; go_simp; try with_reducible rfl)
            try simp only [Act.put, List.setIfInBounds_toArray, List.set_cons_zero, List.set_cons_succ, List.getElem_toArray, List.getElem_cons_zero, List.getElem_cons_succ]
            refine AnyBut.takeE (i := 4) (v := ?_) rfl (by kernel_rfl) (by kernel_rfl) (by kernel_rfl) (by kernel_rfl) (fun _ _ _ h => h) (Or.inl ⟨by rfl, ?_⟩) hS ?_
            rotate_left
            · (intro wq hq; go_simp; try with_reducible rfl)
            try simp only [Act.put, List.setIfInBounds_toArray, List.set_cons_zero, List.set_cons_succ, List.getElem_toArray, List.getElem_cons_zero, List.getElem_cons_succ]
            refine AnyBut.gone (i := 5) (by kernel_rfl) rfl (by rfl) (fun K hK => ?_)
            refine wp_store_mid 25 (.tmp 10) (.tmp 41) rfl g5 0 (vbs y).toArray rfl rfl KY.out IYa.out (all_oneCell_toArray (vbs_one _)) ?_
            rw [List.toList_toArray]
            have hS6 : SRy b o y (W5.drew.setCells g5 0 (vbs y)) := fun j u hj => by
              rw [World.cell?_of_block (a := ⟨b, o + j, none⟩) (heap_setCells g5 (vbs y) 0 b (by omega))]
              exact RY.out j u hj
            refine hK _ _ (fun _ => hS6) ?_
            clear hK K
            try simp only [Act.put, List.setIfInBounds_toArray, List.set_cons_zero, List.set_cons_succ, List.getElem_toArray, List.getElem_cons_zero, List.getElem_cons_succ]
            refine AnyBut.gone (i := 6) (by kernel_rfl) rfl (by rfl) (fun K hK => ?_)
            go_simp
            refine hK _ _ (fun _ => hS6) ?_
            clear hK K
            try simp only [Act.put, List.setIfInBounds_toArray, List.set_cons_zero, List.set_cons_succ, List.getElem_toArray, List.getElem_cons_zero, List.getElem_cons_succ]
            refine AnyBut.done (by kernel_rfl) ?_ _
            try dsimp only [Exit.then]
            clear hS hS6
            have C5 := Lib.hid ((show HBx W5.drew g5 g from HB5.out).set GYL.out)
            have C0 := Lib.hid ((show HBx W5.drew w.heap.size g from G05.out).other (g' := g5) (by omega) (vbs y))
            have C1 := Lib.hid ((show HBx W5.drew (w.heap.size + 1) Z32 from G15.out).other (g' := g5) (by omega) (vbs y))
            have CB := Lib.hid (below_setCells (B := w.heap.size) (b := g5) (by omega) (vbs y) 0 _ GB5.out.drew)
            generalize (W5.drew.setCells g5 0 (vbs y)) = W6 at C5 C0 C1 CB ⊢
            clear HB5 G05 G15 GB5 RY KY hsl hne
            by_cases hp : i % 2 = 0
            · have hp' : ((i : Int) % 2 == 0) = true := by simp; omega
              have Hpar := Lib.hid hp
              clear hp
              have X0 := Lib.hid C0.out.1.range
              have X5 := Lib.hid C5.out.1.range
              have J0 := Lib.hid C0.out.inf
              have J5 := Lib.hid C5.out.inf
              have HJ := Lib.hid (mjoined_any g y G0L.out GYL.out W6)
              have HH0 : Hid (∀ w', Below W6.heap.size W6 w' → Calls Tryd.prog 38 #[.agg (vbs (g ++ y)).toArray] w' (VPost (.agg (vbs (tw (g ++ y))).toArray) w')) := fun w' hb => hashed_any HT.out _ (by simp [G0L.out, GYL.out]) w' ((HG.out.below CB.out).below hb)
              obtain ⟨D, hD⟩ : ∃ D, D = tw (g ++ y) := ⟨_, rfl⟩
              have HDl := Lib.hid (show D.length = 32 by rw [hD]; exact HT.out.len _)
              have HD := Lib.hid hD
              rw [← hD] at HH0
              have ID := Lib.hid (i25a HDl.out)
              have KT0 : Hid (∀ w', Below W6.heap.size W6 w' → w'.there w.heap.size 0 (vbs D).toArray.size) := fun w' hb => (C0.out.below hb).kt HDl.out
              clear hD
              go_wp2_with (first
                | ((with_reducible show wpList _ _ _ ((⟨some 47, _, _, _, _, _⟩ : Oper) :: _) _ _); with_reducible refine wpList_load_mid rfl 25 (.tmp 4) rfl (w.heap.size) 0 rfl (vbs g) _ X0.out Tryd.underlying25 rfl J0.out ?_)
                | ((with_reducible show wpList _ _ _ ((⟨some 48, _, _, _, _, _⟩ : Oper) :: _) _ _); with_reducible refine wpList_load_mid rfl 25 (.tmp 10) rfl (g5) 0 rfl (vbs y) _ X5.out Tryd.underlying25 rfl J5.out ?_)
                | (go_at_call 39; (with_reducible refine HJ.out.mono ?_); rintro e W7 ⟨rfl, hb7⟩; have HH7 := Lib.hid (HH0.out _ hb7); have HB7 := Lib.hid hb7; clear hb7 HJ; dsimp only)
                | (go_at_call 38; (with_reducible refine HH7.out.mono ?_); rintro e W8 ⟨rfl, hb8⟩; have HB8 := Lib.hid (HB7.out.trans (hb8.mono HB7.out.size)); have KT8 := Lib.hid (KT0.out _ (HB7.out.trans (hb8.mono HB7.out.size))); clear hb8 HH7; dsimp only)
                | ((with_reducible show wpList _ _ _ ((⟨none, _, _, _, _, _⟩ : Oper) :: _) _ _); with_reducible refine wpList_store_mid rfl 25 (.tmp 4) (.tmp 50) rfl w.heap.size 0 (vbs D).toArray rfl rfl KT8.out ID.out (all_oneCell_toArray (vbs_one _)) ?_))
              go_roundw
              case rel =>
                have E0 := (C0.out.below HB8.out).set HDl.out
                have E1 := (C1.out.below HB8.out).other (g' := w.heap.size) (by omega) (vbs D)
                have EB := below_setCells (B := w.heap.size) (Nat.le_refl _) (vbs D) 0 _ (CB.out.trans (HB8.out.mono CB.out.size))
                refine ⟨f, i / 2, (n + 1) / 2, D, r, A2, (n1 - 1), (c1 - 1), by go_num, by go_num, rfl, E0, E1, EB, GRr.out, by omega, by omega, by omega, ?_⟩
                rw [HD.out, ← GF.out]
                simp [foldT, Hn1.out, Hsib.out, Hpar.out]
              case measure => simp [intOf]; omega
            · have hp' : ((i : Int) % 2 == 0) = false := by simp; omega
              have Hpar := Lib.hid hp
              clear hp
              have X0 := Lib.hid C0.out.1.range
              have X5 := Lib.hid C5.out.1.range
              have J0 := Lib.hid C0.out.inf
              have J5 := Lib.hid C5.out.inf
              have HJ := Lib.hid (mjoined_any y g GYL.out G0L.out W6)
              have HH0 : Hid (∀ w', Below W6.heap.size W6 w' → Calls Tryd.prog 38 #[.agg (vbs (y ++ g)).toArray] w' (VPost (.agg (vbs (tw (y ++ g))).toArray) w')) := fun w' hb => hashed_any HT.out _ (by simp [GYL.out, G0L.out]) w' ((HG.out.below CB.out).below hb)
              obtain ⟨D, hD⟩ : ∃ D, D = tw (y ++ g) := ⟨_, rfl⟩
              have HDl := Lib.hid (show D.length = 32 by rw [hD]; exact HT.out.len _)
              have HD := Lib.hid hD
              rw [← hD] at HH0
              have ID := Lib.hid (i25a HDl.out)
              have KT0 : Hid (∀ w', Below W6.heap.size W6 w' → w'.there w.heap.size 0 (vbs D).toArray.size) := fun w' hb => (C0.out.below hb).kt HDl.out
              clear hD
              go_wp2_with (first
                | ((with_reducible show wpList _ _ _ ((⟨some 51, _, _, _, _, _⟩ : Oper) :: _) _ _); with_reducible refine wpList_load_mid rfl 25 (.tmp 10) rfl (g5) 0 rfl (vbs y) _ X5.out Tryd.underlying25 rfl J5.out ?_)
                | ((with_reducible show wpList _ _ _ ((⟨some 52, _, _, _, _, _⟩ : Oper) :: _) _ _); with_reducible refine wpList_load_mid rfl 25 (.tmp 4) rfl (w.heap.size) 0 rfl (vbs g) _ X0.out Tryd.underlying25 rfl J0.out ?_)
                | (go_at_call 39; (with_reducible refine HJ.out.mono ?_); rintro e W7 ⟨rfl, hb7⟩; have HH7 := Lib.hid (HH0.out _ hb7); have HB7 := Lib.hid hb7; clear hb7 HJ; dsimp only)
                | (go_at_call 38; (with_reducible refine HH7.out.mono ?_); rintro e W8 ⟨rfl, hb8⟩; have HB8 := Lib.hid (HB7.out.trans (hb8.mono HB7.out.size)); have KT8 := Lib.hid (KT0.out _ (HB7.out.trans (hb8.mono HB7.out.size))); clear hb8 HH7; dsimp only)
                | ((with_reducible show wpList _ _ _ ((⟨none, _, _, _, _, _⟩ : Oper) :: _) _ _); with_reducible refine wpList_store_mid rfl 25 (.tmp 4) (.tmp 54) rfl w.heap.size 0 (vbs D).toArray rfl rfl KT8.out ID.out (all_oneCell_toArray (vbs_one _)) ?_))
              go_roundw
              case rel =>
                have E0 := (C0.out.below HB8.out).set HDl.out
                have E1 := (C1.out.below HB8.out).other (g' := w.heap.size) (by omega) (vbs D)
                have EB := below_setCells (B := w.heap.size) (Nat.le_refl _) (vbs D) 0 _ (CB.out.trans (HB8.out.mono CB.out.size))
                refine ⟨f, i / 2, (n + 1) / 2, D, r, A2, (n1 - 1), (c1 - 1), by go_num, by go_num, rfl, E0, E1, EB, GRr.out, by omega, by omega, by omega, ?_⟩
                rw [HD.out, ← GF.out]
                simp [foldT, Hn1.out, Hsib.out, Hpar.out]
              case measure => simp [intOf]; omega
        · have hsib' : ¬ (x : Int) < (n : Int) := by omega
          have hp : i % 2 = 0 := by
            by_cases hp : i % 2 = 0
            · exact hp
            · rw [if_neg hp] at hx; omega
          have Hsib : Hid (sib i n = false) := by
            show sib i n = false
            rw [if_pos hp] at hx
            unfold sib; simp; omega
          have hp' : ((i : Int) % 2 == 0) = true := by simp; omega
          have Hpar := Lib.hid hp
          have C5 := HB5
          have C0 := G05
          have C1 := G15
          have CB := GB5
          have GYL := G0L
          clear hx hsib hn1 hp HB5 G05 G15 GB5
          have X0 := Lib.hid C0.out.1.range
          have X5 := Lib.hid C5.out.1.range
          have J0 := Lib.hid C0.out.inf
          have J5 := Lib.hid C5.out.inf
          have HJ := Lib.hid (mjoined_any g g G0L.out G0L.out W5)
          have HH0 : Hid (∀ w', Below W5.heap.size W5 w' → Calls Tryd.prog 38 #[.agg (vbs (g ++ g)).toArray] w' (VPost (.agg (vbs (tw (g ++ g))).toArray) w')) := fun w' hb => hashed_any HT.out _ (by simp [G0L.out, G0L.out]) w' ((HG.out.below CB.out).below hb)
          obtain ⟨D, hD⟩ : ∃ D, D = tw (g ++ g) := ⟨_, rfl⟩
          have HDl := Lib.hid (show D.length = 32 by rw [hD]; exact HT.out.len _)
          have HD := Lib.hid hD
          rw [← hD] at HH0
          have ID := Lib.hid (i25a HDl.out)
          have KT0 : Hid (∀ w', Below W5.heap.size W5 w' → w'.there w.heap.size 0 (vbs D).toArray.size) := fun w' hb => (C0.out.below hb).kt HDl.out
          clear hD
          go_wp2_with (first
            | ((with_reducible show wpList _ _ _ ((⟨some 47, _, _, _, _, _⟩ : Oper) :: _) _ _); with_reducible refine wpList_load_mid rfl 25 (.tmp 4) rfl (w.heap.size) 0 rfl (vbs g) _ X0.out Tryd.underlying25 rfl J0.out ?_)
            | ((with_reducible show wpList _ _ _ ((⟨some 48, _, _, _, _, _⟩ : Oper) :: _) _ _); with_reducible refine wpList_load_mid rfl 25 (.tmp 10) rfl (g5) 0 rfl (vbs g) _ X5.out Tryd.underlying25 rfl J5.out ?_)
            | (go_at_call 39; (with_reducible refine HJ.out.mono ?_); rintro e W7 ⟨rfl, hb7⟩; have HH7 := Lib.hid (HH0.out _ hb7); have HB7 := Lib.hid hb7; clear hb7 HJ; dsimp only)
            | (go_at_call 38; (with_reducible refine HH7.out.mono ?_); rintro e W8 ⟨rfl, hb8⟩; have HB8 := Lib.hid (HB7.out.trans (hb8.mono HB7.out.size)); have KT8 := Lib.hid (KT0.out _ (HB7.out.trans (hb8.mono HB7.out.size))); clear hb8 HH7; dsimp only)
            | ((with_reducible show wpList _ _ _ ((⟨none, _, _, _, _, _⟩ : Oper) :: _) _ _); with_reducible refine wpList_store_mid rfl 25 (.tmp 4) (.tmp 50) rfl w.heap.size 0 (vbs D).toArray rfl rfl KT8.out ID.out (all_oneCell_toArray (vbs_one _)) ?_))
          go_roundw
          case rel =>
            have E0 := (C0.out.below HB8.out).set HDl.out
            have E1 := (C1.out.below HB8.out).other (g' := w.heap.size) (by omega) (vbs D)
            have EB := below_setCells (B := w.heap.size) (Nat.le_refl _) (vbs D) 0 _ (CB.out.trans (HB8.out.mono CB.out.size))
            refine ⟨f, i / 2, (n + 1) / 2, D, bs, A1, n1, c1, by go_num, by go_num, rfl, E0, E1, EB, GR.out, by omega, by omega, by omega, ?_⟩
            rw [HD.out, ← GF.out]
            simp [foldT, Hn1.out, Hsib.out, Hpar.out]
          case measure => simp [intOf]; omega
  · have e : foldI tw h i n br = none := by unfold foldI; rw [if_neg hc]
    rw [e]
    have HB0 := Lib.hid built_0
    by_cases h1 : i < 0
    · have h1b : decide (i < 0) = true := by simpa using h1
      clear hc e hi hn HR
      go_enter Tryd.func20, Tryd.ntmps20
      go_upto_region 2 with fail
      generalize ((w.alloc (.cells (vbs h).toArray 25)).alloc (.cells (vbs Z32).toArray 25)) = W0 at H0 H1 HB ⊢
      have KTf := Lib.hid (H1.out.kt Z32_len)
      have IAf := Lib.hid (i25a Z32_len)
      have Bf := Lib.hid (H1.out.set Z32_len)
      have BBf := Lib.hid (below_setCells (B := w.heap.size) (b := w.heap.size + 1) (by omega) (vbs Z32) 0 _ HB.out)
      go_wp2_with (first
        | ((with_reducible show wpList _ _ _ ((⟨some 22, _, _, _, _, _⟩ : Oper) :: _) _ _); refine wpList_hash rfl _ rfl [] Z32 rfl HB0.out ?_)
        | ((with_reducible show wpList _ _ _ ((⟨none, _, _, _, _, _⟩ : Oper) :: _) _ _); with_reducible refine wpList_store_mid rfl 25 (.tmp 8) (.tmp 22) rfl (w.heap.size + 1) 0 (vbs Z32).toArray rfl rfl KTf.out IAf.out (all_oneCell_toArray (vbs_one _)) ?_))
      have hlv := run_loadVar_mid (P := Tryd.prog) (W0.setCells (w.heap.size + 1) 0 (vbs Z32)) (w.heap.size + 1) 0 25 _ _ Bf.out.1.range Tryd.underlying25 rfl Bf.out.inf
      exact bodyPost_ret (v := .tuple #[.agg (vbs Z32).toArray, .bool false]) (by simp [results, Tryd.results20, asAddr, Act.put, hlv]) rfl ⟨rfl, Z32_len, BBf.out⟩
    by_cases h2 : n ≤ i
    · have h1b : decide (i < 0) = false := by simpa using h1
      have h2b : decide (n ≤ i) = true := by simpa using h2
      clear hc e hi hn HR
      go_enter Tryd.func20, Tryd.ntmps20
      go_upto_region 2 with fail
      generalize ((w.alloc (.cells (vbs h).toArray 25)).alloc (.cells (vbs Z32).toArray 25)) = W0 at H0 H1 HB ⊢
      have KTf := Lib.hid (H1.out.kt Z32_len)
      have IAf := Lib.hid (i25a Z32_len)
      have Bf := Lib.hid (H1.out.set Z32_len)
      have BBf := Lib.hid (below_setCells (B := w.heap.size) (b := w.heap.size + 1) (by omega) (vbs Z32) 0 _ HB.out)
      go_wp2_with (first
        | ((with_reducible show wpList _ _ _ ((⟨some 22, _, _, _, _, _⟩ : Oper) :: _) _ _); refine wpList_hash rfl _ rfl [] Z32 rfl HB0.out ?_)
        | ((with_reducible show wpList _ _ _ ((⟨none, _, _, _, _, _⟩ : Oper) :: _) _ _); with_reducible refine wpList_store_mid rfl 25 (.tmp 8) (.tmp 22) rfl (w.heap.size + 1) 0 (vbs Z32).toArray rfl rfl KTf.out IAf.out (all_oneCell_toArray (vbs_one _)) ?_))
      have hlv := run_loadVar_mid (P := Tryd.prog) (W0.setCells (w.heap.size + 1) 0 (vbs Z32)) (w.heap.size + 1) 0 25 _ _ Bf.out.1.range Tryd.underlying25 rfl Bf.out.inf
      exact bodyPost_ret (v := .tuple #[.agg (vbs Z32).toArray, .bool false]) (by simp [results, Tryd.results20, asAddr, Act.put, hlv]) rfl ⟨rfl, Z32_len, BBf.out⟩
    have h3 : (1048576 : Int) < n := by omega
    have h1b : decide (i < 0) = false := by simpa using h1
    have h2b : decide (n ≤ i) = false := by simpa using h2
    have h3b : decide ((1048576 : Int) < n) = true := by simpa using h3
    clear hc e hi hn HR
    go_enter Tryd.func20, Tryd.ntmps20
    go_upto_region 2 with fail
    generalize ((w.alloc (.cells (vbs h).toArray 25)).alloc (.cells (vbs Z32).toArray 25)) = W0 at H0 H1 HB ⊢
    have KTf := Lib.hid (H1.out.kt Z32_len)
    have IAf := Lib.hid (i25a Z32_len)
    have Bf := Lib.hid (H1.out.set Z32_len)
    have BBf := Lib.hid (below_setCells (B := w.heap.size) (b := w.heap.size + 1) (by omega) (vbs Z32) 0 _ HB.out)
    go_wp2_with (first
      | ((with_reducible show wpList _ _ _ ((⟨some 22, _, _, _, _, _⟩ : Oper) :: _) _ _); refine wpList_hash rfl _ rfl [] Z32 rfl HB0.out ?_)
      | ((with_reducible show wpList _ _ _ ((⟨none, _, _, _, _, _⟩ : Oper) :: _) _ _); with_reducible refine wpList_store_mid rfl 25 (.tmp 8) (.tmp 22) rfl (w.heap.size + 1) 0 (vbs Z32).toArray rfl rfl KTf.out IAf.out (all_oneCell_toArray (vbs_one _)) ?_))
    have hlv := run_loadVar_mid (P := Tryd.prog) (W0.setCells (w.heap.size + 1) 0 (vbs Z32)) (w.heap.size + 1) 0 25 _ _ Bf.out.1.range Tryd.underlying25 rfl Bf.out.inf
    exact bodyPost_ret (v := .tuple #[.agg (vbs Z32).toArray, .bool false]) (by simp [results, Tryd.results20, asAddr, Act.put, hlv]) rfl ⟨rfl, Z32_len, BBf.out⟩
end Go.Proofs.YtihbmahjdmfjpaaDoor
