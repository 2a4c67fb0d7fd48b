/- told, times and greater of numbers by their digits, said over any slice that reads as digits ('Num'). -/
import Derived.Test.YtjbjkddgefiicaaDoorDe
namespace Go.Proofs.YtjbjkddgefiicaaDoor
open Go.RowKit
set_option linter.unusedVariables false
set_option linter.unusedSimpArgs false
/-- The value v is a slice that reads as the digits X. -/
def Num (w : World) (v : Value) (X : List Nat) : Prop := ∃ A c, v = .slice A X.length c ∧ RdN w w.heap.size A X ∧ Dig X
theorem Num.below {w w' : World} {v : Value} {X : List Nat} (h : Num w v X) (hb : Below w.heap.size w w') : Num w' v X := by
  obtain ⟨A, c, e, hr, hd⟩ := h
  exact ⟨A, c, e, hr.up hb hb.size, hd⟩
theorem Num.drewN {w : World} {v : Value} {X : List Nat} (h : Num w v X) (q : Nat) : Num (w.drewN q) v X := h
theorem told_num (n : Nat) (hn : n < 18446744073709551616) (w : World) :
    Calls Tryd.prog 46 #[.int .u64 n] w fun e w' => ∃ v L, e = .returned v ∧ Num w' v L ∧ val L = n ∧ L.length ≤ 20 ∧ Below w.heap.size w w' :=
  (told_any n hn w).mono fun e w' ⟨v, L, he, ho, hd, hv, hl, hb⟩ => by
    obtain ⟨A, c, e2, hr, _⟩ := ho.rd
    exact ⟨v, L, he, ⟨A, c, e2, hr, hd⟩, hv, hl, hb⟩
theorem times_num (X Y : List Nat) (v u : Value) (w : World) (hv : Num w v X) (hu : Num w u Y) (hl : X.length < 1000) (hl2 : Y.length < 1000) :
    Calls Tryd.prog 47 #[v, u] w fun e w' => ∃ r O, e = .returned r ∧ Num w' r O ∧ O.length = X.length + Y.length + 1 ∧ val O = val X * val Y ∧ Below w.heap.size w w' := by
  obtain ⟨A, c, rfl, hr, hd⟩ := hv
  obtain ⟨B, c2, rfl, hr2, hd2⟩ := hu
  exact (times_loop X Y hd hd2 A B c c2 X.length Y.length w rfl rfl hr hr2 hl hl2).mono fun e w' ⟨O, he, hB, hlen, hdo, hval, hb⟩ =>
    ⟨_, O, he, ⟨some ⟨w.heap.size, 0, none⟩, _, by rw [hlen], fun hp => ⟨w.heap.size, 0, rfl, hB.lt, fun j hj => by rw [Nat.zero_add]; exact hB.cell (vns_at hj)⟩, hdo⟩, hlen, hval, hb⟩
theorem greater_num (X Y : List Nat) (v u : Value) (w : World) (hv : Num w v X) (hu : Num w u Y) (hl : X.length < 1000) (hl2 : Y.length < 1000) :
    Calls Tryd.prog 48 #[v, u] w fun e w' => e = .returned (.bool (decide (val Y < val X))) ∧ w = w' := by
  obtain ⟨A, c, rfl, hr, hd⟩ := hv
  obtain ⟨B, c2, rfl, hr2, hd2⟩ := hu
  have h := greater_loop X Y A B c c2 X.length Y.length w rfl rfl hr hr2 (by omega) (by omega) _ rfl
  rwa [grt_all X Y hd hd2 _ (by split <;> omega) (by split <;> omega)] at h
end Go.Proofs.YtjbjkddgefiicaaDoor
