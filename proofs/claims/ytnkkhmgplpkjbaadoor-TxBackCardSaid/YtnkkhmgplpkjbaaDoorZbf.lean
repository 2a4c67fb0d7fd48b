/- Whatever transaction came in: it lies in memory as an input's and an output's cells say. The two tables of the row hold the constants that the walks ask for. -/
import Derived.Test.YtnkkhmgplpkjbaaDoorZba
import Derived.Test.YtnkkhmgplpkjbaaDoorZbb
import Derived.Test.YtnkkhmgplpkjbaaDoorZbc
import Derived.Test.YtnkkhmgplpkjbaaDoorZbd
import Derived.Test.YtnkkhmgplpkjbaaDoorZbe
import Derived.Deep.Slices
import Derived.ChangeSlices
import Derived.OpenShut
import Derived.Test.YtnkkhmgplpkjbaaDoorRows
import Derived.ProofKit
import Derived.LaidMore
import Derived.Stop.Joined
import Derived.ShutString
import Derived.ChangeOld
import Derived.Lib.LaidTab
import Derived.Stop.BytesEq
import Derived.Deep.RegionHeld3
namespace Go.Proofs.YtnkkhmgplpkjbaaDoor
open Go.ChangeShapes Go.WideShapes Go.ChangeAt Go.RowKit Go.Deep
set_option linter.unusedVariables false
set_option linter.unusedSimpArgs false
set_option maxRecDepth 100000
section
variable {H : Type} {enc : TypeId × Value → H} {W : World} {base : Nat} {held : Bool}
theorem mid_none {w : World} {b o : Nat} {sp : Option _} {v : Value} (h : w.cell? ((⟨b, o, sp⟩ : Addr).add 0) = some v) : sp = none := by
  cases sp with
  | none => rfl
  | some q =>
    exfalso
    have e : (⟨b, o, some q⟩ : Addr).add 0 = ⟨b, o, some q⟩ := by unfold Addr.add; simp
    rw [e] at h
    unfold World.cell? at h
    revert h
    cases w.heap[b]? with
    | none => simp
    | some ob => cases ob <;> simp
theorem sl_of {fuel : Nat} {cs : List Value} {x : DataW H × List MemPlace} (h : DataW.trod enc Tryd.prog W base (fun _ => true) held fuel 27 cs = some x) : ∃ v L, cs = [v] ∧ Sl W W.heap.size v L := by
  rcases open_ints Tryd.underlying27 Tryd.underlying5 (by kernel_rfl) h with ⟨hcs, _⟩ | ⟨a, l, c, zs, hcs, _, hl, hm, hz, _, hcell, hwz⟩
  · exact ⟨_, [], hcs, Sl.nil _ _⟩
  · have hrow : IsRow W (some a) l c zs := .inr ⟨a, rfl, hl, hm, by simpa using hz, hcell, hwz⟩
    obtain ⟨R, hR, hrd, hlc, hcc⟩ := rd_of_row hrow
    exact ⟨_, R, hcs, some a, c, by rw [hR], hrd, by omega, hcc, fun h => by cases h⟩
theorem sl_form {v : Value} {L : List (BitVec 8)} {w : World} {B : Nat} (h : Sl w B v L) : ∃ A n c, v = .slice A n c := by
  obtain ⟨A, c, e, _⟩ := h
  exact ⟨A, _, c, e⟩
theorem ws_of {fuel : Nat} {cs : List Value} {x : DataW H × List MemPlace} (h : DataW.trod enc Tryd.prog W base (fun _ => true) held fuel 55 cs = some x) : ∃ v Ls, cs = [v] ∧ Ws W W.heap.size v Ls := by
  rcases open_slice1 Tryd.underlying55 (by kernel_rfl) h with ⟨hcs, _⟩ | ⟨a, len, cap, m, n, V, D, Pl, hcs, _, hl, hm, hmm, _, hx⟩
  · exact ⟨_, [], hcs, none, 0, rfl, Nat.le_refl _, by omega, fun h => by simp at h⟩
  · simp at hmm
    subst hmm
    have each : ∀ i, i < m → ∃ L, Sl W W.heap.size (V i) L := fun i hi => by
      obtain ⟨v, L, e, hs⟩ := sl_of (hx i hi).2
      cases e
      exact ⟨L, hs⟩
    obtain ⟨E, hE⟩ := choose_lt each
    refine ⟨_, (List.range len).map E, hcs, some a, m, by simp, by simpa using hl, by unfold maxLen at hm; omega, fun hp => ?_⟩
    simp at hp
    obtain ⟨b, o, sp⟩ := a
    have hc0 := (hx 0 (by omega)).1
    obtain rfl := mid_none hc0
    refine ⟨b, o, rfl, ?_, fun j hj => ?_⟩
    · rw [Addr.add_mid] at hc0
      exact World.block_lt_of_cell? W _ hc0
    · simp at hj
      have h1 := (hx j (by omega)).1
      rw [Addr.add_mid] at h1
      refine ⟨V j, by rw [Nat.mul_one]; exact h1, ?_⟩
      have e : ((List.range len).map E).getD j [] = E j := by simp [List.getD, hj]
      rw [e]
      exact hE j (by omega)
theorem hash_of {fuel : Nat} {cs : List Value} {x : DataW H × List MemPlace} (h : DataW.trod enc Tryd.prog W base (fun _ => true) held fuel 38 cs = some x) : ∃ X : List (BitVec 8), X.length = 32 ∧ cs = vbs X := by
  obtain ⟨xs, m, _, _, hlen, hxl, hi⟩ := DataW.trod_array Tryd.underlying38 h
  have h32 : Tryd.prog.cellsOf 38 = 32 := by kernel_rfl
  have h1 : Tryd.prog.cellsOf 5 = 1 := by kernel_rfl
  rw [h32] at hlen
  have each : ∀ i, i < 32 → ∃ z : BitVec 8, cs[i]? = some (.int .u8 (Bt z)) := fun i hi' => by
    have hk := hi i hi'
    rw [h1, Nat.mul_one] at hk
    have hx : xs[i]? = some (xs[i]'(by omega)) := List.getElem?_eq_getElem (by omega)
    rw [hx] at hk
    obtain ⟨n, e, _, hwf⟩ := DataW.trod_int Tryd.underlying5 hk
    have : cs[i]? = some (.int .u8 n) := by
      have e2 : ((cs.drop i).take 1)[0]? = some (.int .u8 n) := by rw [e]; rfl
      simpa using e2
    exact ⟨BitVec.ofInt 8 n, by rw [byte_of hwf]; exact this⟩
  obtain ⟨E, hE⟩ := choose_lt each
  refine ⟨(List.range 32).map E, by simp, ?_⟩
  apply List.ext_getElem?
  intro i
  by_cases hi' : i < 32
  · rw [hE i hi']
    simp [vbs, hi']
  · rw [List.getElem?_eq_none (by omega), List.getElem?_eq_none (by simp [vbs]; omega)]
theorem u32_of {fuel : Nat} {cs : List Value} {x : DataW H × List MemPlace} (h : DataW.trod enc Tryd.prog W base (fun _ => true) held fuel 22 cs = some x) : ∃ n : Nat, n < 4294967296 ∧ cs = [.int .u32 (n : Int)] := by
  obtain ⟨n, e, _, hwf⟩ := DataW.trod_int Tryd.underlying22 h
  have hb : 0 ≤ n ∧ n ≤ 4294967295 := by
    have := hwf
    simp [Lit.wf, IntKind.min, IntKind.max, IntKind.signed, IntKind.bits] at this
    omega
  exact ⟨n.toNat, by omega, by rw [e, show ((n.toNat : Nat) : Int) = n by omega]⟩
theorem i64_of {fuel : Nat} {cs : List Value} {x : DataW H × List MemPlace} (h : DataW.trod enc Tryd.prog W base (fun _ => true) held fuel 2 cs = some x) : ∃ n : Int, -9223372036854775808 ≤ n ∧ n < 9223372036854775808 ∧ cs = [.int .i64 n] := by
  obtain ⟨n, e, _, hwf⟩ := DataW.trod_int Tryd.underlying2 h
  have hb : -9223372036854775808 ≤ n ∧ n ≤ 9223372036854775807 := by
    have := hwf
    simp [Lit.wf, IntKind.min, IntKind.max, IntKind.signed, IntKind.bits] at this
    omega
  exact ⟨n, by omega, by omega, e⟩
theorem field_of {fuel : Nat} {t : TypeId} {cs : List Value} {x : DataW H × List MemPlace} {fs : Array Field} (ht : Tryd.prog.underlying t = some (.struct fs)) (h : DataW.trod enc Tryd.prog W base (fun _ => true) held fuel t cs = some x) (i : Nat) (f : Field) (hf : fs[i]? = some f) :
    ∃ n y, DataW.trod enc Tryd.prog W base (fun _ => true) held n f.type ((cs.drop f.offset).take (Tryd.prog.cellsOf f.type)) = some y := by
  obtain ⟨xs, n, _, _, hlen, hxl, hi⟩ := DataW.trod_struct ht h
  have hk := hi i f hf
  have hx : xs[i]? = some (xs[i]'(by have := (Array.getElem?_eq_some_iff.1 hf).1; omega)) := List.getElem?_eq_getElem _
  rw [hx] at hk
  exact ⟨n, _, hk⟩
theorem prev_of {fuel : Nat} {cs : List Value} {x : DataW H × List MemPlace} (h : DataW.trod enc Tryd.prog W base (fun _ => true) held fuel 54 cs = some x) : ∃ X a, X.length = 32 ∧ a < 4294967296 ∧ cs = prevV X a := by
  have hl : cs.length = 33 := by
    obtain ⟨xs, n, _, _, hlen, _⟩ := DataW.trod_struct Tryd.underlying54 h
    rw [hlen]; kernel_rfl
  obtain ⟨n1, y1, h1⟩ := field_of Tryd.underlying54 h 0 _ rfl
  obtain ⟨n2, y2, h2⟩ := field_of Tryd.underlying54 h 1 _ rfl
  obtain ⟨X, hX, e1⟩ := hash_of h1
  obtain ⟨a, ha, e2⟩ := u32_of h2
  refine ⟨X, a, hX, ha, ?_⟩
  have c1 : Tryd.prog.cellsOf 38 = 32 := by kernel_rfl
  have c2 : Tryd.prog.cellsOf 22 = 1 := by kernel_rfl
  have e1' : cs.take 32 = vbs X := by rw [← e1]; simp [c1]
  have e2' : cs.drop 32 = [.int .u32 (a : Int)] := by rw [← e2]; simp [c2, List.take_of_length_le, hl]
  unfold prevV
  rw [← e1', ← e2', List.take_append_drop]
end

open Go.ChangeShapes Go.WideShapes Go.ChangeAt Go.RowKit Go.Deep
set_option linter.unusedVariables false
set_option linter.unusedSimpArgs false
set_option maxRecDepth 100000
instance inhIn : Inhabited TIn := ⟨In0⟩
instance inhOut : Inhabited TOut := ⟨Out0⟩
section
variable {H : Type} {enc : TypeId × Value → H} {W : World} {base : Nat} {held : Bool}
theorem in_of {fuel : Nat} {cs : List Value} {x : DataW H × List MemPlace} (h : DataW.trod enc Tryd.prog W base (fun _ => true) held fuel 57 cs = some x) : ∃ t s u, cs = inV t s u ∧ InOk W W.heap.size t s u := by
  have hl : cs.length = 36 := by
    obtain ⟨xs, n, _, _, hlen, _⟩ := DataW.trod_struct Tryd.underlying57 h
    rw [hlen]; kernel_rfl
  obtain ⟨n0, y0, h0⟩ := field_of Tryd.underlying57 h 0 _ rfl
  obtain ⟨n1, y1, h1⟩ := field_of Tryd.underlying57 h 1 _ rfl
  obtain ⟨n2, y2, h2⟩ := field_of Tryd.underlying57 h 2 _ rfl
  obtain ⟨n3, y3, h3⟩ := field_of Tryd.underlying57 h 3 _ rfl
  obtain ⟨X, a, hX, ha, e0⟩ := prev_of h0
  obtain ⟨s, L, e1, hs⟩ := sl_of h1
  obtain ⟨q, hq, e2⟩ := u32_of h2
  obtain ⟨u, Ls, e3, hu⟩ := ws_of h3
  refine ⟨⟨X, a, L, q, Ls⟩, s, u, ?_, hs, hu, hX, ha, hq⟩
  have c0 : Tryd.prog.cellsOf 54 = 33 := by kernel_rfl
  have c1 : Tryd.prog.cellsOf 27 = 1 := by kernel_rfl
  have c2 : Tryd.prog.cellsOf 22 = 1 := by kernel_rfl
  have c3 : Tryd.prog.cellsOf 55 = 1 := by kernel_rfl
  have e0' : cs.take 33 = prevV X a := by rw [← e0]; simp [c0]
  have e1' : (cs.drop 33).take 1 = [s] := by rw [← e1]; simp [c1]
  have e2' : (cs.drop 34).take 1 = [.int .u32 (q : Int)] := by rw [← e2]; simp [c2]
  have e3' : (cs.drop 35).take 1 = [u] := by rw [← e3]; simp [c3]
  have g1 : cs.drop 33 = [s] ++ cs.drop 34 := by rw [← e1', show cs.drop 34 = (cs.drop 33).drop 1 by simp, List.take_append_drop]
  have g2 : cs.drop 34 = [.int .u32 (q : Int)] ++ cs.drop 35 := by rw [← e2', show cs.drop 35 = (cs.drop 34).drop 1 by simp, List.take_append_drop]
  have g3 : cs.drop 35 = [u] := by rw [← e3', List.take_of_length_le (by simp [hl])]
  rw [inV_prev]
  show cs = prevV X a ++ [s, .int .u32 (q : Int), u]
  rw [← List.take_append_drop 33 cs, e0', g1, g2, g3]
  rfl
theorem out_of {fuel : Nat} {cs : List Value} {x : DataW H × List MemPlace} (h : DataW.trod enc Tryd.prog W base (fun _ => true) held fuel 43 cs = some x) : ∃ y s, cs = outV y s ∧ OutOk W W.heap.size y s := by
  have hl : cs.length = 2 := by
    obtain ⟨xs, n, _, _, hlen, _⟩ := DataW.trod_struct Tryd.underlying43 h
    rw [hlen]; kernel_rfl
  obtain ⟨n0, y0, h0⟩ := field_of Tryd.underlying43 h 0 _ rfl
  obtain ⟨n1, y1, h1⟩ := field_of Tryd.underlying43 h 1 _ rfl
  obtain ⟨z, hz1, hz2, e0⟩ := i64_of h0
  obtain ⟨s, L, e1, hs⟩ := sl_of h1
  refine ⟨⟨z, L⟩, s, ?_, hs, hz1, hz2⟩
  have c0 : Tryd.prog.cellsOf 2 = 1 := by kernel_rfl
  have c1 : Tryd.prog.cellsOf 27 = 1 := by kernel_rfl
  have e0' : cs.take 1 = [.int .i64 z] := by rw [← e0]; simp [c0]
  have e1' : cs.drop 1 = [s] := by
    have h1' : (cs.drop 1).take 1 = [s] := by rw [← e1]; simp [c1]
    rw [← h1']; exact (List.take_of_length_le (by simp [hl])).symm
  show cs = [.int .i64 z, s]
  rw [← List.take_append_drop 1 cs, e0', e1']
  rfl
theorem range_of {b o n : Nat} {cs : List Value} (h : W.cells? base (⟨b, o, none⟩ : Addr) n = some cs) : W.rangeAt b o cs ∧ (0 < n → b < W.heap.size) := by
  obtain ⟨_, hl, hi⟩ := World.cells?_some h
  refine ⟨fun j v hv => ?_, fun hp => ?_⟩
  · have hj : j < n := by rw [← hl]; exact (List.getElem?_eq_some_iff.1 hv).1
    have := hi j hj
    rw [Addr.add_mid] at this
    rw [this]; exact hv
  · have := hi 0 hp
    rw [Addr.add_mid, List.getElem?_eq_getElem (by omega)] at this
    exact World.block_lt_of_cell? W _ this
theorem mid_of {b o n k : Nat} {sp : Option _} {cs : List Value} (h : W.cells? base ((⟨b, o, sp⟩ : Addr).add 0) (n + 1) = some cs) : sp = none := by
  obtain ⟨_, hl, hi⟩ := World.cells?_some h
  have := hi 0 (by omega)
  rw [List.getElem?_eq_getElem (by omega)] at this
  have e : ((⟨b, o, sp⟩ : Addr).add 0).add 0 = (⟨b, o, sp⟩ : Addr).add 0 := by unfold Addr.add; simp
  rw [e] at this
  exact mid_none this
theorem is_of {fuel : Nat} {cs : List Value} {x : DataW H × List MemPlace} (h : DataW.trod enc Tryd.prog W base (fun _ => true) held fuel 23 cs = some x) : ∃ v xs, cs = [v] ∧ Is W W.heap.size v xs := by
  rcases open_slice Tryd.underlying23 h with ⟨hcs, _⟩ | ⟨a, len, cap, m, n, D, Pl, hcs, _, hl, hm, hmm, _, hx⟩
  · exact ⟨_, [], hcs, none, 0, rfl, Nat.le_refl _, by omega, fun h => by simp at h⟩
  · simp at hmm
    subst hmm
    have c60 : Tryd.prog.cellsOf 57 = 36 := by kernel_rfl
    rw [c60] at hx
    have each : ∀ i, i < m → ∃ t : TIn, ∃ s u, W.cells? base (a.add (i * 36)) 36 = some (inV t s u) ∧ InOk W W.heap.size t s u := fun i hi => by
      obtain ⟨cs', hc, ht⟩ := hx i hi
      obtain ⟨t, s, u, e, ok⟩ := in_of ht
      exact ⟨t, s, u, by rw [← e]; exact hc, ok⟩
    obtain ⟨E, hE⟩ := choose_lt each
    refine ⟨_, (List.range len).map E, hcs, some a, m, by simp, by simpa using hl, by unfold maxLen at hm; omega, fun hp => ?_⟩
    simp at hp
    obtain ⟨b, o, sp⟩ := a
    obtain ⟨s0, u0, hc0, _⟩ := hE 0 (by omega)
    rw [Nat.zero_mul] at hc0
    obtain rfl := mid_of (n := 35) (k := 0) hc0
    refine ⟨b, o, rfl, ?_, fun j hj => ?_⟩
    · rw [Addr.add_mid] at hc0
      exact (range_of hc0).2 (by omega)
    · simp at hj
      obtain ⟨s, u, hc, ok⟩ := hE j (by omega)
      rw [Addr.add_mid] at hc
      have e : ((List.range len).map E).getD j In0 = E j := by simp [List.getD, hj]
      rw [e]
      exact ⟨s, u, (range_of hc).1, ok⟩
theorem os_of {fuel : Nat} {cs : List Value} {x : DataW H × List MemPlace} (h : DataW.trod enc Tryd.prog W base (fun _ => true) held fuel 24 cs = some x) : ∃ v xs, cs = [v] ∧ Os W W.heap.size v xs := by
  rcases open_slice Tryd.underlying24 h with ⟨hcs, _⟩ | ⟨a, len, cap, m, n, D, Pl, hcs, _, hl, hm, hmm, _, hx⟩
  · exact ⟨_, [], hcs, none, 0, rfl, Nat.le_refl _, by omega, fun h => by simp at h⟩
  · simp at hmm
    subst hmm
    have c65 : Tryd.prog.cellsOf 43 = 2 := by kernel_rfl
    rw [c65] at hx
    have each : ∀ i, i < m → ∃ t : TOut, ∃ s, W.cells? base (a.add (i * 2)) 2 = some (outV t s) ∧ OutOk W W.heap.size t s := fun i hi => by
      obtain ⟨cs', hc, ht⟩ := hx i hi
      obtain ⟨t, s, e, ok⟩ := out_of ht
      exact ⟨t, s, by rw [← e]; exact hc, ok⟩
    obtain ⟨E, hE⟩ := choose_lt each
    refine ⟨_, (List.range len).map E, hcs, some a, m, by simp, by simpa using hl, by unfold maxLen at hm; omega, fun hp => ?_⟩
    simp at hp
    obtain ⟨b, o, sp⟩ := a
    obtain ⟨s0, hc0, _⟩ := hE 0 (by omega)
    rw [Nat.zero_mul] at hc0
    obtain rfl := mid_of (n := 1) (k := 0) hc0
    refine ⟨b, o, rfl, ?_, fun j hj => ?_⟩
    · rw [Addr.add_mid] at hc0
      exact (range_of hc0).2 (by omega)
    · simp at hj
      obtain ⟨s, hc, ok⟩ := hE j (by omega)
      rw [Addr.add_mid] at hc
      have e : ((List.range len).map E).getD j Out0 = E j := by simp [List.getD, hj]
      rw [e]
      exact ⟨s, (range_of hc).1, ok⟩
theorem tx_of {r : Reach} {b0 : Nat} {v : Value} {d : DataW H} {p : List MemPlace} (hv : Value.okWide Tryd.prog W r b0 26 v) (h : DataW.Trod enc Tryd.prog W base (fun _ => true) held 26 v d p) :
    ∃ t i o, v = txV t i o ∧ TxOk W W.heap.size t i o := by
  obtain ⟨cs, rfl, hsz⟩ := okWide_struct Tryd.underlying26 hv
  obtain ⟨fuel, hf⟩ := h
  have hl : cs.size = 4 := by rw [hsz]; kernel_rfl
  obtain ⟨l⟩ := cs
  have hf' : DataW.trod enc Tryd.prog W base (fun _ => true) held fuel 26 l = some (d, p) := by simpa [Value.cells] using hf
  obtain ⟨n0, y0, h0⟩ := field_of Tryd.underlying26 hf' 0 _ rfl
  obtain ⟨n1, y1, h1⟩ := field_of Tryd.underlying26 hf' 1 _ rfl
  obtain ⟨n2, y2, h2⟩ := field_of Tryd.underlying26 hf' 2 _ rfl
  obtain ⟨n3, y3, h3⟩ := field_of Tryd.underlying26 hf' 3 _ rfl
  obtain ⟨ver, hver, e0⟩ := u32_of h0
  obtain ⟨i, xs, e1, hi⟩ := is_of h1
  obtain ⟨o, ys, e2, ho⟩ := os_of h2
  obtain ⟨lock, hlock, e3⟩ := u32_of h3
  have c0 : Tryd.prog.cellsOf 22 = 1 := by kernel_rfl
  have c1 : Tryd.prog.cellsOf 23 = 1 := by kernel_rfl
  have c2 : Tryd.prog.cellsOf 24 = 1 := by kernel_rfl
  match l, hl with
  | [a, b, c, e], _ =>
    refine ⟨⟨ver, xs, ys, lock⟩, i, o, ?_, hi, ho, hver, hlock⟩
    simp [c0] at e0 e3
    simp [c1] at e1
    simp [c2] at e2
    rw [e0, e1, e2, e3]
    rfl
end
set_option maxRecDepth 100000
open Go.ChangeShapes Go.WideShapes Go.ChangeAt Go.RowKit
set_option linter.unusedVariables false
set_option linter.unusedSimpArgs false
def laidL : List (String × DataW Unit) := [("spinney/sha.initial", Rows.laid_spinney_sha_initial), ("spinney/sha.constants", Rows.laid_spinney_sha_constants)]
theorem gI : Tryd.prog.globalNamed "spinney/sha.initial" = some 0 := by kernel_rfl
theorem gK : Tryd.prog.globalNamed "spinney/sha.constants" = some 1 := by kernel_rfl
theorem tI : (Tryd.prog.globals[0]?).map (·.type) = some 122 := by kernel_rfl
theorem tK : (Tryd.prog.globals[1]?).map (·.type) = some 141 := by kernel_rfl
set_option maxRecDepth 100000 in
theorem dI : (Rows.laid_spinney_sha_initial : DataW Unit) = Lib.tabData .u32 [U ini.a, U ini.b, U ini.c, U ini.d, U ini.e, U ini.f, U ini.g, U ini.h] := by kernel_rfl
set_option maxRecDepth 100000 in
theorem dK : (Rows.laid_spinney_sha_constants : DataW Unit) = Lib.tabData .u32 (KK.map U) := by kernel_rfl
theorem door_met (os : Go.Os) (args : Array Value) : laidMetH Tryd.prog laidL ((World.doorLaid Tryd.prog 400 os).forCall (fun _ _ => 0) ⟨#[], args, []⟩).memory :=
  laidMetH_of_parts3 (fuel := 8) (laidMet_of_run' 8 (by kernel_rfl) (by kernel_rfl)) (by kernel_rfl) (by kernel_rfl)
theorem glob_of_laid {W : World} (h : laidMetH Tryd.prog laidL W) : Glob W := by
  rw [MakeChecks.laidMetH_plain _ _ _ (by kernel_rfl)] at h
  obtain ⟨ps, ⟨g0, t0, cs0, f0, p0, q0, hg0, ht0, hv0, hd0, ⟨g1, t1, cs1, f1, p1, q1, hg1, ht1, hv1, hd1, _, _⟩, _⟩, _, _⟩ := h
  obtain rfl := Option.some.inj (gI.symm.trans hg0)
  obtain rfl := Option.some.inj (gK.symm.trans hg1)
  obtain rfl := Option.some.inj (tI.symm.trans ht0)
  obtain rfl := Option.some.inj (tK.symm.trans ht1)
  rw [dI] at hd0
  rw [dK] at hd1
  have e0 := Lib.cells_of_tab Tryd.underlying122 Tryd.underlying22 (by kernel_rfl) (by kernel_rfl) hd0
  have e1 := Lib.cells_of_tab Tryd.underlying141 Tryd.underlying22 (by kernel_rfl) (by kernel_rfl) hd1
  refine ⟨fun j v hv => ?_, fun i hi => ?_⟩
  · have := World.var?_cell hg0 hv0 j
    rw [Nat.zero_add, this, ← Array.getElem?_toList, e0]
    exact hv
  · have := World.var?_cell hg1 hv1 i
    rw [this, ← Array.getElem?_toList, e1]
    have hl : i < KK.length := hi
    simp [List.getD, hl]
open Go.ChangeShapes Go.WideShapes Go.ChangeAt Go.RowKit
set_option linter.unusedVariables false
set_option linter.unusedSimpArgs false
theorem eql_same (X : List (BitVec 8)) (hX : X.length = 32) (w : World) : (binOp .eql 38 (.agg (vbs X).toArray) (.agg (vbs X).toArray)).run Tryd.prog w = .ok (.bool true) w := by
  have e : vbs X = (X.map UInt8.ofBitVec).map Extern.Stop.cell := by simp [vbs, Extern.Stop.cell, Bt]
  have := run_eql_bytes (P := Tryd.prog) w 38 5 32 Tryd.underlying38 Tryd.underlying5 size5 (X.map UInt8.ofBitVec) (X.map UInt8.ofBitVec) (by simpa using hX) (by simpa using hX)
  rw [← e] at this
  rw [this]
  simp
end Go.Proofs.YtnkkhmgplpkjbaaDoor
