/- What the law package's given and witnessed return. -/
import Derived.Test.YtnkkhmgplpkjbaaDoorLn
import Derived.Outline
namespace Go.Proofs.YtnkkhmgplpkjbaaDoor
open Go.RowKit
set_option linter.unusedVariables false
set_option linter.unusedSimpArgs false
set_option maxRecDepth 100000
/-- The chapter's transaction, with a witness or without. -/
def IG (wt : List (List (BitVec 8))) : TIn := ⟨Z32, 0, [], 5, wt⟩
def TG (wt : List (List (BitVec 8))) : TTx := ⟨1, [IG wt], [⟨7, [81]⟩], 9⟩
def vG (gi go : Nat) : Value := .agg #[.int .u32 1, .slice (some ⟨gi, 0, none⟩) 1 1, .slice (some ⟨go, 0, none⟩) 1 1, .int .u32 9]
def GivenPost (w : World) (e : Ending) (w' : World) : Prop :=
  ∃ gi gs go, e = .returned (vG gi go) ∧ Blk w' gi 57 (inV (IG []) (.slice none 0 0) (.slice none 0 0)) ∧ Blk w' gs 5 [.int .u8 81] ∧ Blk w' go 43 [.int .i64 7, .slice (some ⟨gs, 0, none⟩) 1 1] ∧ w.heap.size ≤ gi ∧ Below w.heap.size w w'
theorem sl_one {w : World} {g B : Nat} (x : BitVec 8) (h : Blk w g 5 [.int .u8 (Bt x)]) (hg : g < B) : Sl w B (.slice (some ⟨g, 0, none⟩) 1 1) [x] :=
  ⟨_, 1, rfl, fun _ => ⟨g, 0, rfl, hg, fun j hj => by
    have : j = 0 := by simp at hj; omega
    subst this
    exact h.cell rfl⟩, Nat.le_refl _, by omega, fun h => by cases h⟩
theorem tg_ok {w : World} {gi gs go : Nat} {u : Value} {wt : List (List (BitVec 8))} (hi : Blk w gi 57 (inV (IG wt) (.slice none 0 0) u)) (hu : Ws w w.heap.size u wt) (ho : Blk w go 43 [.int .i64 7, .slice (some ⟨gs, 0, none⟩) 1 1]) (hs : Blk w gs 5 [.int .u8 81]) :
    TxOk w w.heap.size (TG wt) (.slice (some ⟨gi, 0, none⟩) 1 1) (.slice (some ⟨go, 0, none⟩) 1 1) := by
  refine ⟨⟨_, 1, rfl, Nat.le_refl _, by omega, fun _ => ⟨gi, 0, rfl, hi.lt, fun j hj => ?_⟩⟩, ⟨_, 1, rfl, Nat.le_refl _, by omega, fun _ => ⟨go, 0, rfl, ho.lt, fun j hj => ?_⟩⟩, show (1 : Nat) < 4294967296 by omega, show (9 : Nat) < 4294967296 by omega⟩
  · have : j = 0 := by simp [TG] at hj; omega
    subst this
    exact ⟨.slice none 0 0, u, hi.range, Sl.nil _ _, hu, rfl, show (0 : Nat) < 4294967296 by omega, show (5 : Nat) < 4294967296 by omega⟩
  · have : j = 0 := by simp [TG] at hj; omega
    subst this
    exact ⟨.slice (some ⟨gs, 0, none⟩) 1 1, ho.range, sl_one 81 hs hs.lt, show (-9223372036854775808 : Int) ≤ 7 by omega, show (7 : Int) < 9223372036854775808 by omega⟩
set_option maxHeartbeats 4000000 in
theorem given_any (w : World) : Calls Tryd.prog 20 #[] w (GivenPost w) := by
  go_enter Tryd.func20, Tryd.ntmps20
  go_wp2_with fail
  refine bodyPost_ret (v := vG (w.heap.size + 1) (w.heap.size + 1 + 1 + 1)) (by simp [results, Tryd.results20, go_sem, vG]) rfl ⟨w.heap.size + 1, w.heap.size + 1 + 1, w.heap.size + 1 + 1 + 1, rfl, ?_, ?_, ?_, by omega, ?_⟩
  · refine Blk.alloc (Blk.alloc ?_ _) _
    have := Blk.new (w.alloc (.cells #[.int .u32 1, .slice (some ⟨w.heap.size + 1, 0, none⟩) 1 1, .slice (some ⟨w.heap.size + 1 + 1 + 1, 0, none⟩) 1 1, .int .u32 9] 26)) 57 (inV (IG []) (.slice none 0 0) (.slice none 0 0)).toArray
    rw [List.toList_toArray] at this
    have e : (w.alloc (.cells #[.int .u32 1, .slice (some ⟨w.heap.size + 1, 0, none⟩) 1 1, .slice (some ⟨w.heap.size + 1 + 1 + 1, 0, none⟩) 1 1, .int .u32 9] 26)).heap.size = w.heap.size + 1 := by simp
    rw [e] at this
    exact this
  · refine Blk.alloc ?_ _
    have := Blk.new ((w.alloc (.cells #[.int .u32 1, .slice (some ⟨w.heap.size + 1, 0, none⟩) 1 1, .slice (some ⟨w.heap.size + 1 + 1 + 1, 0, none⟩) 1 1, .int .u32 9] 26)).alloc (.cells (inV (IG []) (.slice none 0 0) (.slice none 0 0)).toArray 57)) 5 #[.int .u8 81]
    have e : ((w.alloc (.cells #[.int .u32 1, .slice (some ⟨w.heap.size + 1, 0, none⟩) 1 1, .slice (some ⟨w.heap.size + 1 + 1 + 1, 0, none⟩) 1 1, .int .u32 9] 26)).alloc (.cells (inV (IG []) (.slice none 0 0) (.slice none 0 0)).toArray 57)).heap.size = w.heap.size + 1 + 1 := by simp
    rw [e] at this
    exact this
  · have := Blk.new (((w.alloc (.cells #[.int .u32 1, .slice (some ⟨w.heap.size + 1, 0, none⟩) 1 1, .slice (some ⟨w.heap.size + 1 + 1 + 1, 0, none⟩) 1 1, .int .u32 9] 26)).alloc (.cells (inV (IG []) (.slice none 0 0) (.slice none 0 0)).toArray 57)).alloc (.cells #[.int .u8 81] 5)) 43 #[.int .i64 7, .slice (some ⟨w.heap.size + 1 + 1, 0, none⟩) 1 1]
    have e : (((w.alloc (.cells #[.int .u32 1, .slice (some ⟨w.heap.size + 1, 0, none⟩) 1 1, .slice (some ⟨w.heap.size + 1 + 1 + 1, 0, none⟩) 1 1, .int .u32 9] 26)).alloc (.cells (inV (IG []) (.slice none 0 0) (.slice none 0 0)).toArray 57)).alloc (.cells #[.int .u8 81] 5)).heap.size = w.heap.size + 1 + 1 + 1 := by simp
    rw [e] at this
    exact this
  · exact ((((Below.refl _ _).alloc (Nat.le_refl _) _).alloc (by simp) _).alloc (by simp; omega) _).alloc (by simp; omega) _
def WitdPost (w : World) (e : Ending) (w' : World) : Prop :=
  ∃ gi go, e = .returned (vG gi go) ∧ TxOk w' w'.heap.size (TG [[170]]) (.slice (some ⟨gi, 0, none⟩) 1 1) (.slice (some ⟨go, 0, none⟩) 1 1) ∧ Below w.heap.size w w'
theorem blk_ne {w : World} {a b : Nat} {T T' : TypeId} {vs us : List Value} (h : Blk w a T vs) (h' : Blk w b T' us) (hT : T ≠ T') : a ≠ b := by
  intro e
  subst e
  unfold Blk at h h'
  rw [h] at h'
  simp at h'
  exact hT h'.2
theorem inV_set {wt : List (List (BitVec 8))} {s u v : Value} : (inV (IG wt) s u).set 35 v = inV (IG [[170]]) s v := rfl
set_option maxHeartbeats 4000000 in
theorem witness_any (w : World) : Calls Tryd.prog 22 #[] w (WitdPost w) := by
  have K := Lib.hid (given_any)
  have hb0 : Hid (Below w.heap.size w (w.alloc (Obj.cells #[.int .u32 0, .slice none 0 0, .slice none 0 0, .int .u32 0] 26))) := (Below.refl _ _).alloc (Nat.le_refl _) _
  go_enter Tryd.func22, Tryd.ntmps22
  go_upto_region 2 with (go_at_call 20; (refine (K.out _).mono ?_); rintro e w2 ⟨gi, gs, go, rfl, hI, hS, hO, hge, hb⟩; have HI := Lib.hid hI; have HS := Lib.hid hS; have HO := Lib.hid hO; have HB := Lib.hid hb; have HGe := Lib.hid hge; clear hI hS hO hb hge; unfold vG; dsimp only)
  have hT : Blk (w2.alloc (.cells #[.int .u32 1, .slice (some ⟨gi, 0, none⟩) 1 1, .slice (some ⟨go, 0, none⟩) 1 1, .int .u32 9] 26)) w2.heap.size 26 [.int .u32 1, .slice (some ⟨gi, 0, none⟩) 1 1, .slice (some ⟨go, 0, none⟩) 1 1, .int .u32 9] := Blk.new w2 26 #[.int .u32 1, .slice (some ⟨gi, 0, none⟩) 1 1, .slice (some ⟨go, 0, none⟩) 1 1, .int .u32 9]
  have hI := HI.out.alloc (.cells #[.int .u32 1, .slice (some ⟨gi, 0, none⟩) 1 1, .slice (some ⟨go, 0, none⟩) 1 1, .int .u32 9] 26)
  have hS := HS.out.alloc (.cells #[.int .u32 1, .slice (some ⟨gi, 0, none⟩) 1 1, .slice (some ⟨go, 0, none⟩) 1 1, .int .u32 9] 26)
  have hO := HO.out.alloc (.cells #[.int .u32 1, .slice (some ⟨gi, 0, none⟩) 1 1, .slice (some ⟨go, 0, none⟩) 1 1, .int .u32 9] 26)
  have hW : Blk (w2.alloc (.cells #[.int .u32 1, .slice (some ⟨gi, 0, none⟩) 1 1, .slice (some ⟨go, 0, none⟩) 1 1, .int .u32 9] 26)) w.heap.size 26 [.int .u32 0, .slice none 0 0, .slice none 0 0, .int .u32 0] :=
    (Blk.below (Blk.new w 26 #[.int .u32 0, .slice none 0 0, .slice none 0 0, .int .u32 0]) HB.out (by simp)).alloc _
  have hb : Below w.heap.size w (w2.alloc (.cells #[.int .u32 1, .slice (some ⟨gi, 0, none⟩) 1 1, .slice (some ⟨go, 0, none⟩) 1 1, .int .u32 9] 26)) := (hb0.out.trans (HB.out.mono (by simp))).alloc (by have := HB.out.size; simp at this; omega) _
  have hge : w.heap.size < gi := by have := HGe.out; simp at this; omega
  have htg : w2.heap.size ≠ gi := by have := HI.out.lt; omega
  have hwt : w.heap.size ≠ w2.heap.size := by have := HB.out.size; simp at this; omega
  generalize w2.alloc (.cells #[.int .u32 1, .slice (some ⟨gi, 0, none⟩) 1 1, .slice (some ⟨go, 0, none⟩) 1 1, .int .u32 9] 26) = w3 at hT hI hS hO hW hb ⊢
  generalize w2.heap.size = tb at hT htg hwt ⊢
  have ct := hT.cell (j := 1) (v := .slice (some ⟨gi, 0, none⟩) 1 1) rfl
  have hI5 := (hI.alloc (.cells #[.int .u8 170] 5)).alloc (.cells #[.slice (some ⟨w3.heap.size, 0, none⟩) 1 1] 27)
  have hT5 := (hT.alloc (.cells #[.int .u8 170] 5)).alloc (.cells #[.slice (some ⟨w3.heap.size, 0, none⟩) 1 1] 27)
  have hS5 := (hS.alloc (.cells #[.int .u8 170] 5)).alloc (.cells #[.slice (some ⟨w3.heap.size, 0, none⟩) 1 1] 27)
  have hO5 := (hO.alloc (.cells #[.int .u8 170] 5)).alloc (.cells #[.slice (some ⟨w3.heap.size, 0, none⟩) 1 1] 27)
  have hW5 := (hW.alloc (.cells #[.int .u8 170] 5)).alloc (.cells #[.slice (some ⟨w3.heap.size, 0, none⟩) 1 1] 27)
  have h170 : Blk ((w3.alloc (.cells #[.int .u8 170] 5)).alloc (.cells #[.slice (some ⟨w3.heap.size, 0, none⟩) 1 1] 27)) w3.heap.size 5 [.int .u8 170] := (Blk.new w3 5 #[.int .u8 170]).alloc _
  have hwi : Blk ((w3.alloc (.cells #[.int .u8 170] 5)).alloc (.cells #[.slice (some ⟨w3.heap.size, 0, none⟩) 1 1] 27)) (w3.heap.size + 1) 27 [.slice (some ⟨w3.heap.size, 0, none⟩) 1 1] := by
    have := Blk.new (w3.alloc (.cells #[.int .u8 170] 5)) 27 #[.slice (some ⟨w3.heap.size, 0, none⟩) 1 1]
    have e : (w3.alloc (.cells #[.int .u8 170] 5)).heap.size = w3.heap.size + 1 := by simp
    rw [e] at this
    exact this
  have hb5 : Below w.heap.size w ((w3.alloc (.cells #[.int .u8 170] 5)).alloc (.cells #[.slice (some ⟨w3.heap.size, 0, none⟩) 1 1] 27)) := (hb.alloc hb.size _).alloc (by have := hb.size; simp; omega) _
  have ci := hI5.cell (j := 35) (v := .slice none 0 0) rfl
  have fi := hI5.free 35
  have H5 := Lib.hid (⟨hI5, hT5, hS5, hO5, hW5, h170, hwi⟩ : _ ∧ _ ∧ _ ∧ _ ∧ _ ∧ _ ∧ _)
  have Hb5 := Lib.hid hb5
  clear hT hI hS hO hW hb hI5 hT5 hS5 hO5 hW5 h170 hwi hb5 HI HS HO HB HGe
  go_upto_region 3 with fail
  obtain ⟨hI5, hT5, hS5, hO5, hW5, h170, hwi⟩ := H5.out
  have hI6 := hI5.set 35 (.slice (some ⟨w3.heap.size + 1, 0, none⟩) 1 1)
  rw [inV_set] at hI6
  have hT6 := hT5.other (a := ⟨gi, 35, none⟩) htg (.slice (some ⟨w3.heap.size + 1, 0, none⟩) 1 1)
  have hS6 := hS5.other (a := ⟨gi, 35, none⟩) (blk_ne hS5 hI5 (by decide)) (.slice (some ⟨w3.heap.size + 1, 0, none⟩) 1 1)
  have hO6 := hO5.other (a := ⟨gi, 35, none⟩) (blk_ne hO5 hI5 (by decide)) (.slice (some ⟨w3.heap.size + 1, 0, none⟩) 1 1)
  have hW6 := hW5.other (a := ⟨gi, 35, none⟩) (blk_ne hW5 hI5 (by decide)) (.slice (some ⟨w3.heap.size + 1, 0, none⟩) 1 1)
  have h6 := h170.other (a := ⟨gi, 35, none⟩) (blk_ne h170 hI5 (by decide)) (.slice (some ⟨w3.heap.size + 1, 0, none⟩) 1 1)
  have hw6 := hwi.other (a := ⟨gi, 35, none⟩) (blk_ne hwi hI5 (by decide)) (.slice (some ⟨w3.heap.size + 1, 0, none⟩) 1 1)
  have hb6 : Below w.heap.size w (((w3.alloc (.cells #[.int .u8 170] 5)).alloc (.cells #[.slice (some ⟨w3.heap.size, 0, none⟩) 1 1] 27)).setCell ⟨gi, 35, none⟩ (.slice (some ⟨w3.heap.size + 1, 0, none⟩) 1 1)) := Below.setCell Hb5.out (show w.heap.size ≤ gi by omega) _
  clear hI5 hT5 hS5 hO5 hW5 h170 hwi H5 Hb5 ci fi ct
  generalize ((w3.alloc (.cells #[.int .u8 170] 5)).alloc (.cells #[.slice (some ⟨w3.heap.size, 0, none⟩) 1 1] 27)).setCell ⟨gi, 35, none⟩ (.slice (some ⟨w3.heap.size + 1, 0, none⟩) 1 1) = w6 at hI6 hT6 hS6 hO6 hW6 h6 hw6 hb6 ⊢
  have t0 := hT6.cell (j := 0) rfl
  have t1 := hT6.cell (j := 1) rfl
  have t2 := hT6.cell (j := 2) rfl
  have t3 := hT6.cell (j := 3) rfl
  have c0 := hW6.cell (j := 0) rfl
  have c1 := hW6.cell (j := 1) rfl
  have c2 := hW6.cell (j := 2) rfl
  have c3 := hW6.cell (j := 3) rfl
  have f0 := hW6.free 0
  have f1 := hW6.free 1
  have f2 := hW6.free 2
  have f3 := hW6.free 3
  have e : ∀ {a : Nat} {T : TypeId} {vs : List Value}, Blk w6 a T vs → a ≠ w.heap.size → Blk (w6.setCells w.heap.size 0 [.int .u32 1, .slice (some ⟨gi, 0, none⟩) 1 1, .slice (some ⟨go, 0, none⟩) 1 1, .int .u32 9]) a T vs := fun h hne => Blk.other_setCells hne _ _ _ h
  have H7 : Hid (TxOk (w6.setCells w.heap.size 0 [.int .u32 1, .slice (some ⟨gi, 0, none⟩) 1 1, .slice (some ⟨go, 0, none⟩) 1 1, .int .u32 9]) (w6.setCells w.heap.size 0 [.int .u32 1, .slice (some ⟨gi, 0, none⟩) 1 1, .slice (some ⟨go, 0, none⟩) 1 1, .int .u32 9]).heap.size (TG [[170]]) (.slice (some ⟨gi, 0, none⟩) 1 1) (.slice (some ⟨go, 0, none⟩) 1 1)) := by
    have n6 := e h6 (blk_ne h6 hW6 (by decide))
    have nw := e hw6 (blk_ne hw6 hW6 (by decide))
    exact tg_ok (e hI6 (by omega)) ⟨_, 1, rfl, Nat.le_refl _, by omega, fun _ => ⟨_, 0, rfl, nw.lt, fun j hj => by
      have : j = 0 := by simp at hj; omega
      subst this
      exact ⟨_, nw.cell rfl, sl_one 170 n6 n6.lt⟩⟩⟩ (e hO6 (blk_ne hO6 hW6 (by decide))) (e hS6 (blk_ne hS6 hW6 (by decide)))
  have Hb7 : Hid (Below w.heap.size w (w6.setCells w.heap.size 0 [.int .u32 1, .slice (some ⟨gi, 0, none⟩) 1 1, .slice (some ⟨go, 0, none⟩) 1 1, .int .u32 9])) := below_setCells (Nat.le_refl _) _ _ _ hb6
  have H8 : Hid (Blk ((((w6.setCell ⟨w.heap.size, 0, none⟩ (.int .u32 1)).setCell ⟨w.heap.size, 1, none⟩ (.slice (some ⟨gi, 0, none⟩) 1 1)).setCell ⟨w.heap.size, 2, none⟩ (.slice (some ⟨go, 0, none⟩) 1 1)).setCell ⟨w.heap.size, 3, none⟩ (.int .u32 9)) w.heap.size 26 [.int .u32 1, .slice (some ⟨gi, 0, none⟩) 1 1, .slice (some ⟨go, 0, none⟩) 1 1, .int .u32 9]) := hW6.setCells [.int .u32 1, .slice (some ⟨gi, 0, none⟩) 1 1, .slice (some ⟨go, 0, none⟩) 1 1, .int .u32 9] rfl
  clear e hI6 hT6 hS6 hO6 hW6 h6 hw6 hb6
  go_wp2_with fail
  have d0 := H8.out.cell (j := 0) rfl
  have d1 := H8.out.cell (j := 1) rfl
  have d2 := H8.out.cell (j := 2) rfl
  have d3 := H8.out.cell (j := 3) rfl
  exact bodyPost_ret (v := vG gi go) (by simp [results, Tryd.results22, go_sem, vG, d0, d1, d2, d3]) rfl ⟨gi, go, rfl, H7.out, Hb7.out⟩
end Go.Proofs.YtnkkhmgplpkjbaaDoor
