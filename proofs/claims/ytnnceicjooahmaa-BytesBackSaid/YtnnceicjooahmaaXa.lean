/- The things of the law BytesBack, opened: a slice of structs of a number, a number, bytes and a hash reads cell by cell. -/
import Derived.Test.YtnnceicjooahmaaWa
import Derived.Deep.Slices
import Derived.ProofKit
import Derived.OpenShut
namespace Go.Proofs.Ytnnceicjooahmaa
open Go.ChangeShapes Go.WideShapes Go.Deep Go.RowKit
set_option linter.unusedVariables false
set_option linter.unusedSimpArgs false
/-- A thing: its width, its number, its bytes (where they lie), its hash. -/
structure Th where
  W : Int
  N : Nat
  A : Option Addr
  cap : Nat
  Bs : List (BitVec 8)
  H : List (BitVec 8)
def thv (T : Th) : List Value := .int .i64 T.W :: .int .u64 T.N :: .slice T.A T.Bs.length T.cap :: vbs T.H
structure ThOk (w : World) (B : Nat) (T : Th) : Prop where
  h32 : T.H.length = 32
  n64 : T.N < 18446744073709551616
  rd : Rd w B T.A T.Bs
  nil_ : T.A = none → T.cap = 0
theorem thv_len {T : Th} (h : T.H.length = 32) : (thv T).length = 35 := by simp [thv, vbs_len, h]
theorem arr_cells {H : Type} {enc : TypeId × Value → H} {W : World} {base : Nat} {spare : Nat → Bool} {held : Bool} {n : Nat} {cs : List Value} {x : DataW H × List MemPlace} (h : DataW.trod enc Try.prog W base spare held n 42 cs = some x) :
    ∃ X : List (BitVec 8), X.length = 32 ∧ cs = vbs X := by
  obtain ⟨xs, m, _, _, hlen, hxl, hf⟩ := DataW.trod_array Try.underlying42 h
  have hl : cs.length = 32 := by rw [hlen]; kernel_rfl
  have h5 : Try.prog.cellsOf 5 = 1 := by kernel_rfl
  have each : ∀ i (hi : i < cs.length), ∃ z : Int, cs[i] = .int .u8 z ∧ (Lit.int .u8 z).wf = true := fun i hi => by
    have h1 := hf i (by omega)
    rw [h5, Nat.mul_one] at h1
    have hx : xs[i]? = some (xs[i]'(by omega)) := List.getElem?_eq_getElem (by omega)
    rw [hx] at h1
    have h2 : (cs.drop i).take 1 = [cs[i]] := by rw [List.drop_eq_getElem_cons hi]; rfl
    rw [h2] at h1
    obtain ⟨z, hz, _, hw⟩ := DataW.trod_int Try.underlying5 h1
    exact ⟨z, by simpa using hz, hw⟩
  refine ⟨cs.map fun v => BitVec.ofInt 8 (intOf v), by simp [hl], ?_⟩
  apply List.ext_getElem
  · simp [vbs_len]
  · intro i h1 h2
    obtain ⟨z, e, hw⟩ := each i h1
    have := byte_of hw
    simp [vbs, e, intOf, this]
theorem drop_step (cs : List Value) (i : Nat) (h : i < cs.length) : (cs.drop i).take 1 ++ cs.drop (i + 1) = cs.drop i := by rw [List.drop_eq_getElem_cons h]; rfl
theorem thing_of {H : Type} {enc : TypeId × Value → H} {W : World} {base : Nat} {held : Bool} {n : Nat} {cs : List Value} {x : DataW H × List MemPlace} (h : DataW.trod enc Try.prog W base (fun _ => true) held n 50 cs = some x) :
    ∃ T : Th, cs = thv T ∧ ThOk W W.heap.size T := by
  obtain ⟨xs, m, _, _, hlen, hxl, hf⟩ := DataW.trod_struct Try.underlying50 h
  have hl : cs.length = 35 := by rw [hlen]; kernel_rfl
  have hxl4 : xs.length = 4 := hxl
  have get : ∀ i (hi : i < 4), xs[i]? = some (xs[i]'(by omega)) := fun i hi => List.getElem?_eq_getElem (by omega)
  have t0 : DataW.trod enc Try.prog W base (fun _ => true) held m 3 ((cs.drop 0).take (Try.prog.cellsOf 3)) = some (xs[0]'(by omega)) := (hf 0 _ rfl).trans (get 0 (by omega))
  have t1 : DataW.trod enc Try.prog W base (fun _ => true) held m 23 ((cs.drop 1).take (Try.prog.cellsOf 23)) = some (xs[1]'(by omega)) := (hf 1 _ rfl).trans (get 1 (by omega))
  have t2 : DataW.trod enc Try.prog W base (fun _ => true) held m 22 ((cs.drop 2).take (Try.prog.cellsOf 22)) = some (xs[2]'(by omega)) := (hf 2 _ rfl).trans (get 2 (by omega))
  have t3 : DataW.trod enc Try.prog W base (fun _ => true) held m 42 ((cs.drop 3).take (Try.prog.cellsOf 42)) = some (xs[3]'(by omega)) := (hf 3 _ rfl).trans (get 3 (by omega))
  have z3 : Try.prog.cellsOf 3 = 1 := by kernel_rfl
  have z23 : Try.prog.cellsOf 23 = 1 := by kernel_rfl
  have z22 : Try.prog.cellsOf 22 = 1 := by kernel_rfl
  have z42 : Try.prog.cellsOf 42 = 32 := by kernel_rfl
  rw [z3] at t0
  rw [z23] at t1
  rw [z22] at t2
  rw [z42] at t3
  obtain ⟨w0, e0, _, _⟩ := DataW.trod_int (k := .i64) (by kernel_rfl) t0
  obtain ⟨n1, e1, _, hw1⟩ := DataW.trod_int (k := .u64) (by kernel_rfl) t1
  obtain ⟨X, hX, e3⟩ := arr_cells t3
  have hn1 : 0 ≤ n1 ∧ n1 ≤ 18446744073709551615 := by
    simp [Lit.wf, IntKind.min, IntKind.max, IntKind.signed, IntKind.bits] at hw1
    omega
  obtain ⟨A, l, c, zs, e2, hrow⟩ : ∃ A l c zs, (cs.drop 2).take 1 = [.slice A l c] ∧ IsRow W A l c zs := by
    rcases open_ints Try.underlying22 Try.underlying5 (by kernel_rfl) t2 with ⟨hcs, _⟩ | ⟨x, l, c, zs, hcs, _, hl, hm, hz, _, hcell, hwz⟩
    · exact ⟨none, 0, 0, [], hcs, .inl ⟨rfl, rfl, rfl, rfl⟩⟩
    · exact ⟨some x, l, c, zs, hcs, .inr ⟨_, rfl, hl, hm, by simpa using hz, hcell, hwz⟩⟩
  have hnil : A = none → c = 0 := fun h => by
    rcases hrow with ⟨_, _, hc, _⟩ | ⟨x, hx, _⟩
    · exact hc
    · rw [hx] at h; cases h
  obtain ⟨R, rfl, hR, _, _⟩ := rd_of_row hrow
  refine ⟨⟨w0, n1.toNat, A, c, R, X⟩, ?_, ⟨hX, by show n1.toNat < _; omega, hR, hnil⟩⟩
  have key : cs = (cs.drop 0).take 1 ++ ((cs.drop 1).take 1 ++ ((cs.drop 2).take 1 ++ (cs.drop 3).take 32)) := by
    have h3 : (cs.drop 3).take 32 = cs.drop 3 := List.take_of_length_le (by rw [List.length_drop]; omega)
    rw [h3]
    rw [drop_step cs 2 (by omega), drop_step cs 1 (by omega), drop_step cs 0 (by omega), List.drop_zero]
  rw [key]
  have e0' : (cs.drop 0).take 1 = [.int .i64 w0] := e0
  have e1' : (cs.drop 1).take 1 = [.int .u64 n1] := e1
  have e3' : (cs.drop 3).take 32 = vbs X := e3
  rw [e0', e1', e2, e3']
  simp [thv]
  omega
/-- The things that lie at A, below block B. -/
def Things (w : World) (B : Nat) (A : Option Addr) (L : List Th) : Prop :=
  (∀ T ∈ L, ThOk w B T) ∧ (0 < L.length → ∃ b o, A = some ⟨b, o, none⟩ ∧ b < B ∧ ∀ i T, L[i]? = some T → w.rangeAt b (o + i * 35) (thv T))
theorem things_of {H : Type} {enc : TypeId × Value → H} {W : World} {base : Nat} {held : Bool} {a : Option Addr} {len cap : Nat} {d : DataW H} {p : List MemPlace} (h : DataW.Trod enc Try.prog W base (fun _ => true) held 48 (.slice a len cap) d p) :
    ∃ L : List Th, L.length = len ∧ Things W W.heap.size a L := by
  obtain ⟨fuel, hf⟩ := h
  rcases open_slice Try.underlying48 hf with ⟨hcs, _⟩ | ⟨x, l, c, m, n, D, Pl, hcs, _, hl, hm, hmm, _, hi⟩
  · simp [Value.cells] at hcs
    obtain ⟨rfl, rfl, rfl⟩ := hcs
    exact ⟨[], rfl, ⟨(fun T hT => by cases hT), fun hp => by simp at hp⟩⟩
  · simp [Value.cells] at hcs
    obtain ⟨rfl, rfl, rfl⟩ := hcs
    have hmm' : m = cap := hmm
    have z50 : Try.prog.cellsOf 50 = 35 := by kernel_rfl
    have each : ∀ i, i < len → ∃ T : Th, ThOk W W.heap.size T ∧ ∀ j v, (thv T)[j]? = some v → W.cell? (x.add (i * 35 + j)) = some v := fun i hlt => by
      obtain ⟨cs', hcc, ht⟩ := hi i (by omega)
      obtain ⟨T, rfl, hok⟩ := thing_of ht
      refine ⟨T, hok, fun j v hj => ?_⟩
      obtain ⟨_, hlen, hat⟩ := World.cells?_some hcc
      have hjl : j < (thv T).length := (List.getElem?_eq_some_iff.1 hj).1
      have := hat j (by omega)
      rw [hj, z50, Go.Deep.add_add] at this
      exact this
    haveI : Inhabited Th := ⟨⟨0, 0, none, 0, [], []⟩⟩
    obtain ⟨F, hF⟩ := choose_lt each
    refine ⟨(List.range len).map F, by simp, fun T hT => ?_, fun hp => ?_⟩
    · obtain ⟨i, hi', rfl⟩ := List.mem_map.1 hT
      exact (hF i (by simpa using hi')).1
    · have h0 : 0 < len := by simpa using hp
      have hc0 := (hF 0 h0).2 0 (.int .i64 (F 0).W) rfl
      obtain ⟨b, o, sp⟩ := x
      have e0 : (⟨b, o, sp⟩ : Addr).add (0 * 35 + 0) = ⟨b, o, sp⟩ := by unfold Addr.add; simp
      rw [e0] at hc0
      have hsp : sp = none := by have := cell_mid hc0; injection this
      subst hsp
      refine ⟨b, o, rfl, World.block_lt_of_cell? W _ hc0, fun i T hT j v hj => ?_⟩
      have hlt : i < len := by have := (List.getElem?_eq_some_iff.1 hT).1; simpa using this
      have hT' : F i = T := by simpa [hlt] using hT
      subst hT'
      have := (hF i hlt).2 j v hj
      rw [Addr.add_mid] at this
      rw [Nat.add_assoc]
      exact this
end Go.Proofs.Ytnnceicjooahmaa
