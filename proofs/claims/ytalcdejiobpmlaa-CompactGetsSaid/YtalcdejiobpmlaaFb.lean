/- The law CompactGets returns true for every input that can be read. -/
import Derived.Test.YtalcdejiobpmlaaFa
import Derived.Outline
namespace Go.Proofs.Ytalcdejiobpmlaa
open Go.RowKit
set_option linter.unusedVariables false
set_option linter.unusedSimpArgs false
set_option maxRecDepth 100000
/-- What holds at the head of each round of the loop. -/
def HeadT (w : World) (B g q : Nat) (X : List (BitVec 8)) (A : Option Addr) (cap m : Nat) (i : Value) (wr : World) : Prop :=
  ∃ k : Nat, k ≤ m ∧ k ≤ 20 ∧ i = .int .i64 k ∧ ∃ a gone, IsR wr B (some g) (stQ X a gone) ∧ IsQ wr B q X a gone A cap ∧ Below w.heap.size w wr ∧ B ≤ wr.heap.size
theorem wrap_le (z : Int) : IntKind.i64.wrap z ≤ 9223372036854775807 := by rw [IntKind.wrap_i64]; omega
set_option maxHeartbeats 4000000 in
theorem gets_walk (A A2 : Option Addr) (cap cap2 : Nat) (R : List (BitVec 8)) (M : List (Int × Nat)) (w : World) (hR : Rd w w.heap.size A R) (hc : A = none → cap = 0) (hl : R.length ≤ cap) (hcm : cap ≤ 9223372036854775807) (hM : Tks w w.heap.size A2 M) :
    Calls Try.prog 4 #[.slice A R.length cap, .slice A2 M.length cap2] w fun e w' => e = .returned (.bool true) ∧ Below w.heap.size w w' := by
  have KC := Lib.hid (cut_row A R.length cap w hl hcm)
  obtain ⟨n, hn⟩ : ∃ m, m = min R.length 3000 := ⟨_, rfl⟩
  obtain ⟨X, hX⟩ : ∃ X, X = R.take n := ⟨_, rfl⟩
  have hXl : X.length = n := by rw [hX, List.length_take]; omega
  have hRX : Rd w w.heap.size A X := by rw [hX]; exact hR.takeB n (by omega)
  have KO := Lib.hid (open_w A X n cap w.heap.size w hXl hRX (Nat.le_refl _) hc (by omega))
  have hm3 : n ≤ 3000 := by omega
  have hmc : n ≤ cap := by omega
  have HRX := Lib.hid hRX
  have HXl := Lib.hid hXl
  have HT := Lib.hid hM
  have Hc := Lib.hid hc
  have Hcm := Lib.hid hcm
  have Hmc := Lib.hid hmc
  have Hm3 := Lib.hid hm3
  rw [← hn] at KC
  obtain ⟨r, hr⟩ : ∃ n, n = R.length := ⟨_, rfl⟩
  rw [← hr] at KC ⊢
  obtain ⟨m, hm⟩ : ∃ n, n = M.length := ⟨_, rfl⟩
  have HM := Lib.hid hm
  rw [← hm]
  clear hR hc hl hX hXl hRX hn hr hm hM hcm hmc hm3
  have KW := Lib.hid (fun w => works_any w)
  go_enter Try.func4, Try.ntmps4
  go_upto_region 2 with (go_at_call 9; (with_reducible refine KC.out.mono ?_); rintro e w' ⟨rfl, rfl⟩; dsimp only)
  clear KC
  go_upto_region 3 with (go_at_call 17; (with_reducible refine KO.out.mono ?_); rintro e w1 ⟨g, rfl, hi, h1, h2, hb⟩; have HI := Lib.hid hi; have HL1 := Lib.hid h1; have HL2 := Lib.hid h2; have HB := Lib.hid hb; clear hi h1 h2 hb KO; dsimp only)
  go_upto_region 4 with fail
  have hnewq := Blk.new w1 35 #[.slice A n cap, .int .i64 0, .bool false]
  have hs4 : (w1.alloc (.cells #[.slice A n cap, .int .i64 0, .bool false] 35)).heap.size = w1.heap.size + 1 := by simp
  generalize hw4 : w1.alloc (.cells #[.slice A n cap, .int .i64 0, .bool false] 35) = w4 at hnewq hs4
  have hb4 : Below w1.heap.size w1 w4 := by rw [← hw4]; exact (Below.refl _ _).alloc (Nat.le_refl _) _
  have HB4 : Hid (Below w.heap.size w w4) := HB.out.trans (hb4.mono HB.out.size)
  have HI4 : Hid (IsR w4 w4.heap.size (some g) (stQ X 0 false)) := (HI.out.below hb4 HL2.out).up (by have := HL2.out; omega)
  have HQ4 : Hid (IsQ w4 w4.heap.size w1.heap.size X 0 false A cap) :=
    { blk := by rw [HXl.out]; exact hnewq
      own := (HRX.out.keep HB4.out).up HB4.out.size
      lt := by omega
      le := by rw [HXl.out]; exact Hmc.out
      cap_ := Hcm.out
      nil_ := Hc.out
      at_ := Nat.zero_le _ }
  have Hlo : Hid (w.heap.size ≤ g) := HL1.out
  have Hqlo : Hid (w.heap.size ≤ w1.heap.size) := HB.out.size
  generalize hqq : w1.heap.size = q at HQ4 Hqlo ⊢
  obtain ⟨B, hBB⟩ : ∃ B, B = w4.heap.size := ⟨_, rfl⟩
  have HBB := Lib.hid hBB
  rw [← hBB] at HI4 HQ4
  clear hnewq hs4 hw4 hb4 HI HL1 HL2 HB hqq hBB
  go_wp2_with fail
  go_loopw [7] (fun i wr => HeadT w B g q X A cap m i wr) (fun i _ => m - (intOf i).toNat)
  case atStart => exact ⟨0, Nat.zero_le _, by omega, rfl, 0, false, HI4.out, HQ4.out, HB4.out, by rw [HBB.out]; exact Nat.le_refl _⟩
  case round =>
    obtain ⟨k, hk, hk20, rfl, a, gone, hI, hQ, hB, hS⟩ := hrel
    obtain ⟨wo, rfl⟩ : ∃ wo : World, wo = wr := ⟨_, rfl⟩
    have HI := Lib.hid hI
    have HQ := Lib.hid hQ
    have HBw := Lib.hid hB
    have HSw := Lib.hid hS
    clear HI4 HQ4 HB4 HBB
    by_cases hlt : k < m ∧ k < 20
    · obtain ⟨b, o, rfl, hbl, hcell⟩ := HT.out (by have := HM.out; omega)
      obtain ⟨c0, c1⟩ := hcell k (by have := HM.out; omega)
      rw [← hB.cell (p := ⟨b, o + k * 2, none⟩) hbl] at c0
      rw [← hB.cell (p := ⟨b, o + k * 2 + 1, none⟩) hbl] at c1
      obtain ⟨D, hD⟩ : ∃ D, D = (M.getD k (0, 0)).1 := ⟨_, rfl⟩
      obtain ⟨N, hN⟩ : ∃ N, N = (M.getD k (0, 0)).2 := ⟨_, rfl⟩
      rw [← hD] at c0
      rw [← hN] at c1
      have hshort : Short (stQ X a gone) 100000000 := fun L e => by have := stQ_le X a gone L e; have := HXl.out; have := Hm3.out; omega
      have HShort := Lib.hid hshort
      have hXs : X.length ≤ 100000000 := by have := HXl.out; have := Hm3.out; omega
      have HXs := Lib.hid hXs
      have hlt1 : (k : Int) < (m : Int) := by omega
      have hlt2 : (k : Int) < 20 := by omega
      have k0 : (0 : Int) ≤ (k : Int) := by omega
      have Hlt1 : Hid (k < m) := hlt.1
      have Hlt2 : Hid (k < 20) := hlt.2
      have Hblk : Hid (b < w.heap.size) := hbl
      have HC1 : Hid (∀ wq, Below w.heap.size w wq → wq.cell? ⟨b, o + k * 2 + 1, none⟩ = some (.int .u64 N)) := fun wq hq => by
        rw [hq.cell (p := ⟨b, o + k * 2 + 1, none⟩) hbl, ← hB.cell (p := ⟨b, o + k * 2 + 1, none⟩) hbl]; exact c1
      clear hI hQ hB hS hD hN hlt hbl hcell hshort hXs HT
      by_cases hp : D.tmod 2 = 0
      · have hpe : (D.tmod 2 == 0) = true := by simp [hp]
        have K18 := Lib.hid (get_any (some g) (stQ X a gone) N B wo HI.out HSw.out)
        clear hp
        go_upto_region 9 with (go_at_call 18; (with_reducible refine K18.out.mono ?_); rintro e w5 ⟨rfl, hi, hg⟩; have HI5 := Lib.hid hi; have HG5 := Lib.hid hg; have HQ5 := Lib.hid (HQ.out.otherR hg HI.out); have HB5 : Hid (Below w.heap.size w w5) := HBw.out.grown hg HBw.out.size (fun k e => by have := Option.some.inj e; have := Hlo.out; omega); clear hi hg K18; dsimp only)
        have d1 := HC1.out w5 HB5.out
        have K19 := Lib.hid (rget_any q B a cap gone A X N w5 HQ5.out (Nat.le_trans HSw.out HG5.out.size) HXs.out)
        generalize gV (stQ X a gone) N = xv at K19 ⊢
        generalize gE (stQ X a gone) N = xe at K19 ⊢
        go_upto_region 10 with (go_at_call 19; (with_reducible refine K19.out.mono ?_); rintro e w6 ⟨a', gone', rfl, hq, hs, hg⟩; have HQ6 := Lib.hid hq; have HG6 := Lib.hid hg; have HS6 := Lib.hid hs; clear hq hs hg K19; dsimp only)
        have HI6 : Hid (IsR w6 B (some g) (stQ X a' gone')) := show IsR w6 B (some g) (stQ X a' gone') by rw [HS6.out]; exact HI5.out.otherQ HG6.out HQ5.out
        have HB6 : Hid (Below w.heap.size w w6) := HB5.out.grown HG6.out HB5.out.size (fun k e => by have := Option.some.inj e; have := Hqlo.out; omega)
        have HZ6 : Hid (B ≤ w6.heap.size) := Nat.le_trans HSw.out (Nat.le_trans HG5.out.size HG6.out.size)
        have c2 := HQ6.out.blk.cell (j := 2) (v := .bool gone') rfl
        have HT24 := Lib.hid (fun n => torn_q HI6.out n)
        have HT22 := Lib.hid (fun n => left_q HI6.out n)
        have HT23 := Lib.hid (fun n => rleft_q HQ6.out n)
        rw [stQ_none] at HT24
        generalize leftS (stQ X a' gone') = lf at HT22 HT23
        clear HC1 HS6 HI5 HQ5 HB5 c0 c1 d1 HQ HI
        go_upto_region 16 with fail
        go_quiet ((first | exact HT22.out _ | exact HT23.out _ | exact HT24.out _))
        go_wp2
        go_roundw
        case rel => exact ⟨k + 1, by have := Hlt1.out; omega, by have := Hlt2.out; omega, by go_num, a', gone', HI6.out.drewN _, HQ6.out.drewN _, below_drewN HB6.out _, HZ6.out⟩
        case measure => have := Hlt1.out; simp [intOf]; omega
      · have hpe : (D.tmod 2 == 0) = false := by simp [hp]
        obtain ⟨Z, hZ⟩ : ∃ Z, Z = IntKind.i64.wrap (N : Int) := ⟨_, rfl⟩
        have hZl : Z ≤ 9223372036854775807 := by rw [hZ]; exact wrap_le _
        have hZw : IntKind.i64.wrap (N : Int) = Z := hZ.symm
        have K20 := Lib.hid (text_any (some g) (stQ X a gone) Z B wo HI.out HSw.out HShort.out hZl)
        have HZl := Lib.hid hZl
        clear hp hZ hZl
        go_upto_region 13 with (go_at_call 20; (with_reducible refine K20.out.mono ?_); rintro e w5 ⟨v5, rfl, ho, hi, hg⟩; obtain ⟨A5, c5, rfl, hr5, _, _, _⟩ := ho.rd; have HR5 := Lib.hid hr5; have HI5 := Lib.hid hi; have HG5 := Lib.hid hg; have HQ5 := Lib.hid (HQ.out.otherR hg HI.out); have HB5 : Hid (Below w.heap.size w w5) := HBw.out.grown hg HBw.out.size (fun k e => by have := Option.some.inj e; have := Hlo.out; omega); clear ho hr5 hi hg K20; dsimp only)
        have d1 := HC1.out w5 HB5.out
        have K21 := Lib.hid (rtext_any q B a cap gone A X Z w5 HQ5.out (Nat.le_trans HSw.out HG5.out.size) HXs.out HZl.out)
        generalize tE (stQ X a gone) Z.toNat = xe at K21 ⊢
        generalize tL (stQ X a gone) Z.toNat = T at K21 HR5 ⊢
        go_upto_region 14 with (go_at_call 21; (with_reducible refine K21.out.mono ?_); rintro e w6 ⟨v6, a', gone', rfl, ho, hq, hs, hg⟩; obtain ⟨A6, c6, rfl, hr6, _, _, _⟩ := ho.rd; have HR6 := Lib.hid hr6; have HQ6 := Lib.hid hq; have HG6 := Lib.hid hg; have HS6 := Lib.hid hs; clear ho hr6 hq hs hg K21; dsimp only)
        have e1 : (convert 22 9 (.slice A5 T.length c5)).run Try.prog w6 = .ok (.string (strB T)) w6 := conv_n (HR5.out.but HQ5.out.blk (noQ _ _ _ _ _) (fun b hb hne => HG6.out.block b hb (fun e => hne (Option.some.inj e)))) rfl
        have e2 : (convert 22 9 (.slice A6 T.length c6)).run Try.prog w6 = .ok (.string (strB T)) w6 := conv_n HR6.out rfl
        obtain ⟨s, hs⟩ : ∃ s, s = strB T := ⟨_, rfl⟩
        rw [← hs] at e1 e2
        have es : (s.toList != s.toList) = false := by simp
        clear hs hZw
        have HI6 : Hid (IsR w6 B (some g) (stQ X a' gone')) := show IsR w6 B (some g) (stQ X a' gone') by rw [HS6.out]; exact HI5.out.otherQ HG6.out HQ5.out
        have HB6 : Hid (Below w.heap.size w w6) := HB5.out.grown HG6.out HB5.out.size (fun k e => by have := Option.some.inj e; have := Hqlo.out; omega)
        have HZ6 : Hid (B ≤ w6.heap.size) := Nat.le_trans HSw.out (Nat.le_trans HG5.out.size HG6.out.size)
        have c2 := HQ6.out.blk.cell (j := 2) (v := .bool gone') rfl
        have HT24 := Lib.hid (fun n => torn_q HI6.out n)
        have HT22 := Lib.hid (fun n => left_q HI6.out n)
        have HT23 := Lib.hid (fun n => rleft_q HQ6.out n)
        rw [stQ_none] at HT24
        generalize leftS (stQ X a' gone') = lf at HT22 HT23
        clear HC1 HS6 HI5 HQ5 HB5 c0 c1 d1 HQ HI
        go_upto_region 16 with fail
        go_quiet ((first | exact HT22.out _ | exact HT23.out _ | exact HT24.out _))
        go_wp2
        go_roundw
        case rel => exact ⟨k + 1, by have := Hlt1.out; omega, by have := Hlt2.out; omega, by go_num, a', gone', HI6.out.drewN _, HQ6.out.drewN _, below_drewN HB6.out _, HZ6.out⟩
        case measure => have := Hlt1.out; simp [intOf]; omega
    · have hc2 : ¬ (k : Int) < (m : Int) ∨ ((k : Int) < (m : Int) ∧ ¬ (k : Int) < 20) := by omega
      clear hlt hI hQ hS HI HQ
      rcases hc2 with h1 | ⟨h1, h2⟩
      · go_wp2_with (go_at_call 16; (with_reducible refine (KW.out _).mono ?_); rintro e w5 ⟨rfl, hb⟩; dsimp only)
        go_ret
        exact ⟨rfl, HBw.out.trans (hb.mono HBw.out.size)⟩
      · go_wp2_with (go_at_call 16; (with_reducible refine (KW.out _).mono ?_); rintro e w5 ⟨rfl, hb⟩; dsimp only)
        go_ret
        exact ⟨rfl, HBw.out.trans (hb.mono HBw.out.size)⟩
end Go.Proofs.Ytalcdejiobpmlaa
