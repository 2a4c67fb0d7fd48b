/- The law HeaderGets returns true for every slice of bytes, in a world whose two tables are as laid. -/
import Derived.Test.YtefiacnpbkancaaDoorHn
import Derived.Lib.MinMax
namespace Go.Proofs.YtefiacnpbkancaaDoor
open Go.RowKit
set_option linter.unusedVariables false
set_option linter.unusedSimpArgs false
set_option maxRecDepth 100000
theorem Rd.take {w : World} {B : Nat} {A : Option Addr} {R : List (BitVec 8)} (h : Rd w B A R) (n : Nat) : Rd w B A (R.take n) := fun hp => by
  have hl : 0 < R.length := by rw [List.length_take] at hp; omega
  obtain ⟨b, o, e, hlt, hc⟩ := h hl
  refine ⟨b, o, e, hlt, fun j hj => ?_⟩
  have hjn : j < n := by rw [List.length_take] at hj; omega
  rw [hc j (by rw [List.length_take] at hj; omega)]
  simp [List.getD, List.getElem?_take, hjn]
set_option maxHeartbeats 8000000 in
theorem gets_walk (A : Option Addr) (cap : Nat) (R : List (BitVec 8)) (w : World) (hR : Rd w w.heap.size A R) (hl : R.length ≤ cap) (hm : cap ≤ 9223372036854775807) (hc : A = none → cap = 0) (hG : Glob w) :
    Calls Tryd.prog 4 #[.slice A R.length cap] w fun e w' => e = .returned (.bool true) ∧ Below w.heap.size w w' := by
  have hz := zero26
  obtain ⟨m, hmm⟩ : ∃ m, m = min R.length 500 := ⟨_, rfl⟩
  obtain ⟨L, hL⟩ : ∃ L, L = R.take m := ⟨_, rfl⟩
  have hLl : L.length = m := by rw [hL, List.length_take]; omega
  have hRL : Rd w w.heap.size A L := by rw [hL]; exact hR.take m
  have hb0 : Below w.heap.size w (w.alloc (Obj.cells #[] 5)) := (Below.refl _ _).alloc (Nat.le_refl _) _
  have HO0 := Lib.hid (show OB (w.alloc (Obj.cells #[] 5)) w.heap.size (.slice (some ⟨w.heap.size, 0, none⟩) 0 0) [] from owns_empty w w.heap.size (Nat.le_refl _))
  have HB0 := Lib.hid hb0
  have HS0 : Hid (Src22 (w.alloc (Obj.cells #[] 5)) A L.length (vbs L)) := src_of_rd (hRL.keep hb0)
  have Hle : Hid (([] : List (BitVec 8)).length + L.length ≤ 140737488355328) := show ([] : List (BitVec 8)).length + L.length ≤ 140737488355328 by rw [hLl]; simp; omega
  have HSz0 : Hid (w.heap.size ≤ (w.alloc (Obj.cells #[] 5)).heap.size) := hb0.size
  have HLl := Lib.hid hLl
  have HRL := Lib.hid hRL
  have Hc := Lib.hid hc
  have HG := Lib.hid hG
  have hm500 : m ≤ 500 := by omega
  have hmc : m ≤ cap := by omega
  have HKH := Lib.hid (hgetH_ok L)
  obtain ⟨h, hh⟩ : ∃ h, h = hgetH L := ⟨_, rfl⟩
  obtain ⟨E, hE⟩ : ∃ E, E = hgetE L := ⟨_, rfl⟩
  have KG : Hid (∀ (A' : Option Addr) (c' : Nat) (wq : World), Rd wq wq.heap.size A' L → (A' = none → c' = 0) → Calls Tryd.prog 14 #[.slice A' m c'] wq fun e w' => e = .returned (.tuple #[.agg (hdV h).toArray, .int .i64 E]) ∧ Below wq.heap.size wq w') := fun A' c' wq h1 h2 => by
    have := hget_any A' L m c' wq.heap.size wq hLl h1 (Nat.le_refl _) h2 (by omega)
    unfold HGetPost at this
    rw [← hh, ← hE] at this
    exact this
  have KR : Hid (∀ (wq : World), Below w.heap.size w wq → Calls Tryd.prog 15 #[.slice A m cap] wq fun e w' => e = .returned (.tuple #[.agg (hdV h).toArray, .int .i64 E]) ∧ Below wq.heap.size wq w') := fun wq hq => by
    have := rget_any A L m cap w.heap.size wq hLl (hRL.keep hq) hq.size hmc hm (by omega)
    unfold HGetPost at this
    rw [← hh, ← hE] at this
    exact this
  have KW := Lib.hid (fun wq g => works_any wq g)
  rw [← hh] at HKH
  have HI := Lib.hid (info26 HKH.out)
  have HIv := Lib.hid (info26v HKH.out)
  have HO26 := Lib.hid (hdV_one h)
  have HBX := Lib.hid (fun w => box_new w HKH.out)
  have HBT := Lib.hid (fun w => box_there w HKH.out)
  have heq : ∀ w, (Op.equalIn 10000 26 (.agg (hdV h).toArray) (.agg (hdV h).toArray)).run Tryd.prog w = .ok true w := fun w => by
    have := eql26 HKH.out HKH.out w
    rw [run_eql_struct] at this
    generalize (Op.equalIn 10000 26 (.agg (hdV h).toArray) (.agg (hdV h).toArray)).run Tryd.prog w = r at this ⊢
    cases r with
    | ok v w' => simp only [Result.andThen_ok] at this; cases v <;> cases this; rfl
    | halt e w' => simp [Result.andThen] at this
  have HEQ := Lib.hid heq
  obtain ⟨n, hn⟩ : ∃ n, n = R.length := ⟨_, rfl⟩
  rw [← hn] at hmm hl ⊢
  have hmin : min (n : Int) 500 = (m : Int) := by omega
  have hn0 : (0 : Int) ≤ (m : Int) := by omega
  have hmci : (m : Int) ≤ (cap : Int) := by omega
  clear hR hc hL hLl hRL hb0 hG hh hE heq hn hmm hl
  go_enter Tryd.func4, Tryd.ntmps4
  go_upto_region 2 with fail
  go_upto_region 3 with (refine wpList_push (o := ⟨some 15, _, _, _, _, _⟩) rfl (.tmp 13) (.tmp 14) rfl rfl w.heap.size _ [] L rfl HO0.out A m cap rfl HLl.out.symm HS0.out Hc.out Hle.out HB0.out HSz0.out (Nat.le_refl _) ?_; intro v3 w3 h1 h2 h3; obtain ⟨A3, c3, rfl, hr3, _, hn3⟩ := OB.slice h1 (by simpa using HLl.out); rw [List.nil_append] at h1 hr3; have HO3 := Lib.hid h1; have HR3 := Lib.hid hr3; have HN3 := Lib.hid hn3; have HB3 := Lib.hid h2; clear h1 h2 h3 hr3 hn3)
  go_upto_region 4 with (first
    | (go_at_call 14; (with_reducible refine (KG.out _ _ _ HR3.out HN3.out).mono ?_); rintro e w4 ⟨rfl, hb4⟩; have HB4 := Lib.hid hb4; clear hb4; dsimp only)
    | (with_reducible refine wpList_store_mid rfl 26 (.tmp 4) (.tmp 19) rfl w4.heap.size 0 (hdV h).toArray rfl rfl (HBT.out w4) HIv.out (all_oneCell_toArray HO26.out) ?_))
  have hq5 := (HBX.out w4).2
  have hB5 := (HBX.out w4).1
  generalize (w4.alloc (.cells (hdV hd0).toArray 26)).setCells w4.heap.size 0 (hdV h) = W5 at hq5 hB5 ⊢
  have hb35 : Below w3.heap.size w3 W5 := HB4.out.trans (hq5.mono HB4.out.size)
  have hb05 : Below w.heap.size w W5 := HB3.out.trans (hb35.mono HB3.out.size)
  have HB5 := Lib.hid hB5
  have Hb35 := Lib.hid hb35
  have Hb05 := Lib.hid hb05
  generalize w4.heap.size = g1 at HB5 ⊢
  clear hq5 hB5 hb35 hb05
  go_upto_region 5 with (first
    | (go_at_call 15; (with_reducible refine (KR.out _ Hb05.out).mono ?_); rintro e w6 ⟨rfl, hb6⟩; have HB6 := Lib.hid hb6; clear hb6; dsimp only)
    | (with_reducible refine wpList_store_mid rfl 26 (.tmp 6) (.tmp 24) rfl w6.heap.size 0 (hdV h).toArray rfl rfl (HBT.out w6) HIv.out (all_oneCell_toArray HO26.out) ?_))
  have hq7 := (HBX.out w6).2
  have hB7 := (HBX.out w6).1
  generalize (w6.alloc (.cells (hdV hd0).toArray 26)).setCells w6.heap.size 0 (hdV h) = W7 at hq7 hB7 ⊢
  have hb57 : Below W5.heap.size W5 W7 := HB6.out.trans (hq7.mono HB6.out.size)
  have hb07 : Below w.heap.size w W7 := Hb05.out.trans (hb57.mono Hb05.out.size)
  have hb37 : Below w3.heap.size w3 W7 := Hb35.out.trans (hb57.mono Hb35.out.size)
  have HB7 := Lib.hid hB7
  have HB5' := Lib.hid (HB5.out.below hb57 HB5.out.lt)
  have hc1 := conv_ob HO3.out hb37
  have hc2 : (convert 27 9 (.slice A m cap)).run Tryd.prog W7 = .ok (.string (strB L)) W7 := conv_n (HRL.out.keep hb07) HLl.out.symm
  have KW7 := Lib.hid (KW.out W7 (HG.out.below hb07))
  have Hb07 := Lib.hid hb07
  generalize w6.heap.size = g2 at HB7 ⊢
  have heq := HEQ.out
  have hss := str_same (strB L)
  have hEE : (E == E) = true := by simp
  clear hq7 hB7 hb57 hb07 hb37 hz HB5
  go_wp2_with (first
    | (with_reducible refine wpList_load_mid rfl 26 (.tmp 4) rfl g1 0 rfl (hdV h) _ HB5'.out.range Tryd.underlying26 rfl HI.out ?_)
    | (with_reducible refine wpList_load_mid rfl 26 (.tmp 6) rfl g2 0 rfl (hdV h) _ HB7.out.range Tryd.underlying26 rfl HI.out ?_)
    | (go_at_call 13; (with_reducible refine KW7.out.mono ?_); rintro e w8 ⟨rfl, hb8⟩; have HB8 := Lib.hid hb8; clear hb8; dsimp only))
  go_ret
  exact ⟨rfl, Hb07.out.trans (HB8.out.mono Hb07.out.size)⟩
end Go.Proofs.YtefiacnpbkancaaDoor
