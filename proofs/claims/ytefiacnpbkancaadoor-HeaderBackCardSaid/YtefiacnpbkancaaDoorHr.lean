/- Headers and arrays of bytes that came in, by value. -/
import Derived.Test.YtefiacnpbkancaaDoorHb
import Derived.Test.YtefiacnpbkancaaDoorRows
import Derived.ProofKit
import Derived.LaidMore
import Derived.OpenShut
namespace Go.Proofs.YtefiacnpbkancaaDoor
open Go.ChangeShapes Go.WideShapes Go.ChangeAt Go.RowKit
set_option linter.unusedVariables false
set_option linter.unusedSimpArgs false
set_option maxRecDepth 100000
theorem arr_any {W : World} {r : Reach} {b0 : Nat} {v : Value} {T : TypeId} {m : Nat} (hu : Tryd.prog.underlying T = some (.array m 5)) (hn : Tryd.prog.cellsOf T = m) (hts : Tryd.prog.cellTypes Tryd.prog.depth T = some (List.replicate m 5)) (h : Value.okWide Tryd.prog W r b0 T v) : ∃ R : List (BitVec 8), R.length = m ∧ v = .agg (vbs R).toArray := by
  simp only [Value.okWide, hu] at h
  obtain ⟨cs, rfl, hn', ts, hts', _, hc⟩ := h
  have hs : cs.size = m := by rw [hn', hn]
  have ht : ts = List.replicate m 5 := Option.some.inj (hts'.symm.trans hts)
  subst ht
  have key : ∀ i, (hi : i < cs.size) → ∃ n : Int, cs[i] = .int .u8 n ∧ IntKind.u8.has n := fun i hi => by
    obtain ⟨u, hu, hk⟩ := hc i cs[i] (Array.getElem?_eq_getElem hi)
    have : u = 5 := by
      rw [List.getElem?_replicate] at hu
      split at hu
      · exact (Option.some.inj hu).symm
      · cases hu
    subst this
    generalize cs[i] = x at hk ⊢
    cases x <;> simp_all [Cell.okWide, Cell.ok, Tryd.underlying5]
  refine ⟨cs.toList.map fun v => BitVec.ofInt 8 (intOf v), by simp [hs], ?_⟩
  congr 1
  apply Array.ext
  · simp [vbs_len]
  · intro i h1 h2
    obtain ⟨n, e, hh⟩ := key i h1
    simp [vbs, e, intOf]
    have := byte_of (z := n) (by simpa [Lit.wf, IntKind.has] using hh)
    exact this.symm

def ts26 : List TypeId := 22 :: (List.replicate 32 5 ++ (List.replicate 32 5 ++ [22, 22, 22]))
theorem ts26_p : ∀ j : Fin 32, ts26[1 + j.val]? = some 5 := by decide
theorem ts26_r : ∀ j : Fin 32, ts26[33 + j.val]? = some 5 := by decide
theorem ts26_e : ∀ j : Fin 3, ts26[65 + j.val]? = some 22 := by decide
theorem hd_any {W : World} {r : Reach} {b0 : Nat} {v : Value} (h : Value.okWide Tryd.prog W r b0 26 v) : ∃ H : THd, HdOk H ∧ v = .agg (hdV H).toArray := by
  have hu := Tryd.underlying26
  have hn : Tryd.prog.cellsOf 26 = 68 := by kernel_rfl
  have hts : Tryd.prog.cellTypes Tryd.prog.depth 26 = some ts26 := by kernel_rfl
  simp only [Value.okWide, hu] at h
  obtain ⟨cs, rfl, hn', ts, hts', _, hc⟩ := h
  have hs : cs.size = 68 := by rw [hn', hn]
  have ht : ts = ts26 := Option.some.inj (hts'.symm.trans hts)
  subst ht
  have k5 : ∀ i, i < 68 → ts26[i]? = some 5 → ∃ n : Int, cs.toList[i]? = some (.int .u8 n) ∧ IntKind.u8.has n := fun i hi h5 => by
    obtain ⟨u, hu, hk⟩ := hc i cs[i] (Array.getElem?_eq_getElem (by omega))
    rw [show ts26.length = 68 from rfl, Nat.mod_eq_of_lt hi] at hu
    have : u = 5 := by
      have := hu.symm.trans h5
      exact Option.some.inj this
    subst this
    have e : cs.toList[i]? = some cs[i] := by rw [Array.getElem?_toList]; exact Array.getElem?_eq_getElem (by omega)
    rw [e]
    generalize cs[i] = x at hk ⊢
    cases x <;> simp_all [Cell.okWide, Cell.ok, Tryd.underlying5]
  have k22 : ∀ i, i < 68 → ts26[i]? = some 22 → ∃ n : Int, cs.toList[i]? = some (.int .u32 n) ∧ IntKind.u32.has n := fun i hi h5 => by
    obtain ⟨u, hu, hk⟩ := hc i cs[i] (Array.getElem?_eq_getElem (by omega))
    rw [show ts26.length = 68 from rfl, Nat.mod_eq_of_lt hi] at hu
    have : u = 22 := by
      have := hu.symm.trans h5
      exact Option.some.inj this
    subst this
    have e : cs.toList[i]? = some cs[i] := by rw [Array.getElem?_toList]; exact Array.getElem?_eq_getElem (by omega)
    rw [e]
    generalize cs[i] = x at hk ⊢
    cases x <;> simp_all [Cell.okWide, Cell.ok, Tryd.underlying22]
  have ll : cs.toList.length = 68 := by rw [Array.length_toList, hs]
  obtain ⟨L, hL⟩ : ∃ L, L = cs.toList := ⟨_, rfl⟩
  rw [← hL] at k5 k22 ll
  have h32 : ∀ {n : Int}, IntKind.u32.has n → 0 ≤ n ∧ n < 4294967296 := fun {n} h => by
    simp [IntKind.has, IntKind.min, IntKind.max, IntKind.signed, IntKind.bits] at h
    omega
  obtain ⟨n0, e0, w0⟩ := k22 0 (by omega) rfl
  obtain ⟨n1, e1, w1⟩ := k22 65 (by omega) (ts26_e 0)
  obtain ⟨n2, e2, w2⟩ := k22 66 (by omega) (ts26_e 1)
  obtain ⟨n3, e3, w3⟩ := k22 67 (by omega) (ts26_e 2)
  have q0 := h32 w0
  have q1 := h32 w1
  have q2 := h32 w2
  have q3 := h32 w3
  obtain ⟨H, hH⟩ : ∃ H : THd, H = ⟨n0.toNat, (List.range 32).map fun j => BitVec.ofInt 8 (intOf (L.getD (1 + j) undef)), (List.range 32).map fun j => BitVec.ofInt 8 (intOf (L.getD (33 + j) undef)), n1.toNat, n2.toNat, n3.toNat⟩ := ⟨_, rfl⟩
  have hk : HdOk H := by
    rw [hH]
    exact ⟨by simp, by simp, by dsimp only; omega, by dsimp only; omega, by dsimp only; omega, by dsimp only; omega⟩
  have key : L = hdV H := by
    apply List.ext_getElem?
    intro i
    by_cases hi : i < 68
    · by_cases i0 : i = 0
      · subst i0
        rw [e0, hH]
        show some _ = some (Value.int .u32 ((n0.toNat : Nat) : Int))
        rw [Int.toNat_of_nonneg q0.1]
      · by_cases i1 : i < 33
        · obtain ⟨j, rfl⟩ : ∃ j, i = 1 + j := ⟨i - 1, by omega⟩
          have hj : j < 32 := by omega
          obtain ⟨n, en, wn⟩ := k5 (1 + j) hi (ts26_p ⟨j, hj⟩)
          rw [hdV_prev hk hj, hH, en]
          have := byte_of (z := n) (by simpa [Lit.wf, IntKind.has] using wn)
          simp [List.getD, hj, en, intOf, this]
        · by_cases i2 : i < 65
          · obtain ⟨j, rfl⟩ : ∃ j, i = 33 + j := ⟨i - 33, by omega⟩
            have hj : j < 32 := by omega
            obtain ⟨n, en, wn⟩ := k5 (33 + j) hi (ts26_r ⟨j, hj⟩)
            rw [hdV_root hk hj, hH, en]
            have := byte_of (z := n) (by simpa [Lit.wf, IntKind.has] using wn)
            simp [List.getD, hj, en, intOf, this]
          · have : i = 65 ∨ i = 66 ∨ i = 67 := by omega
            rcases this with rfl | rfl | rfl
            · rw [e1]
              refine (hdV_end hk (j := 0) ?_).symm
              rw [hH]
              simp [Int.toNat_of_nonneg q1.1]
            · rw [e2]
              refine (hdV_end hk (j := 1) ?_).symm
              rw [hH]
              simp [Int.toNat_of_nonneg q2.1]
            · rw [e3]
              refine (hdV_end hk (j := 2) ?_).symm
              rw [hH]
              simp [Int.toNat_of_nonneg q3.1]
    · rw [List.getElem?_eq_none (by omega), List.getElem?_eq_none (by rw [hdV_len hk]; omega)]
  refine ⟨H, hk, ?_⟩
  rw [← key, hL]
end Go.Proofs.YtefiacnpbkancaaDoor
