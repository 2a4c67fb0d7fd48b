/- Whatever transaction came in: it lies in memory as an input's and an output's cells say. -/
import Derived.Test.YtnkkhmgplpkjbaaMc
import Derived.Test.YtnkkhmgplpkjbaaQa
import Derived.Deep.Slices
import Derived.ChangeSlices
import Derived.OpenShut
namespace Go.Proofs.Ytnkkhmgplpkjbaa
open Go.ChangeShapes Go.WideShapes Go.ChangeAt Go.RowKit Go.Deep
set_option linter.unusedVariables false
set_option linter.unusedSimpArgs false
set_option maxRecDepth 100000
section
variable {H : Type} {enc : TypeId × Value → H} {W : World} {base : Nat} {held : Bool}
theorem mid_none {w : World} {b o : Nat} {sp : Option _} {v : Value} (h : w.cell? ((⟨b, o, sp⟩ : Addr).add 0) = some v) : sp = none := by
  cases sp with
  | none => rfl
  | some q =>
    exfalso
    have e : (⟨b, o, some q⟩ : Addr).add 0 = ⟨b, o, some q⟩ := by unfold Addr.add; simp
    rw [e] at h
    unfold World.cell? at h
    revert h
    cases w.heap[b]? with
    | none => simp
    | some ob => cases ob <;> simp
theorem sl_of {fuel : Nat} {cs : List Value} {x : DataW H × List MemPlace} (h : DataW.trod enc Try.prog W base (fun _ => true) held fuel 22 cs = some x) : ∃ v L, cs = [v] ∧ Sl W W.heap.size v L := by
  rcases open_ints Try.underlying22 Try.underlying5 (by kernel_rfl) h with ⟨hcs, _⟩ | ⟨a, l, c, zs, hcs, _, hl, hm, hz, _, hcell, hwz⟩
  · exact ⟨_, [], hcs, Sl.nil _ _⟩
  · have hrow : IsRow W (some a) l c zs := .inr ⟨a, rfl, hl, hm, by simpa using hz, hcell, hwz⟩
    obtain ⟨R, hR, hrd, hlc, hcc⟩ := rd_of_row hrow
    exact ⟨_, R, hcs, some a, c, by rw [hR], hrd, by omega, hcc, fun h => by cases h⟩
theorem sl_form {v : Value} {L : List (BitVec 8)} {w : World} {B : Nat} (h : Sl w B v L) : ∃ A n c, v = .slice A n c := by
  obtain ⟨A, c, e, _⟩ := h
  exact ⟨A, _, c, e⟩
theorem ws_of {fuel : Nat} {cs : List Value} {x : DataW H × List MemPlace} (h : DataW.trod enc Try.prog W base (fun _ => true) held fuel 58 cs = some x) : ∃ v Ls, cs = [v] ∧ Ws W W.heap.size v Ls := by
  rcases open_slice1 Try.underlying58 (by kernel_rfl) h with ⟨hcs, _⟩ | ⟨a, len, cap, m, n, V, D, Pl, hcs, _, hl, hm, hmm, _, hx⟩
  · exact ⟨_, [], hcs, none, 0, rfl, Nat.le_refl _, by omega, fun h => by simp at h⟩
  · simp at hmm
    subst hmm
    have each : ∀ i, i < m → ∃ L, Sl W W.heap.size (V i) L := fun i hi => by
      obtain ⟨v, L, e, hs⟩ := sl_of (hx i hi).2
      cases e
      exact ⟨L, hs⟩
    obtain ⟨E, hE⟩ := choose_lt each
    refine ⟨_, (List.range len).map E, hcs, some a, m, by simp, by simpa using hl, by unfold maxLen at hm; omega, fun hp => ?_⟩
    simp at hp
    obtain ⟨b, o, sp⟩ := a
    have hc0 := (hx 0 (by omega)).1
    obtain rfl := mid_none hc0
    refine ⟨b, o, rfl, ?_, fun j hj => ?_⟩
    · rw [Addr.add_mid] at hc0
      exact World.block_lt_of_cell? W _ hc0
    · simp at hj
      have h1 := (hx j (by omega)).1
      rw [Addr.add_mid] at h1
      refine ⟨V j, by rw [Nat.mul_one]; exact h1, ?_⟩
      have e : ((List.range len).map E).getD j [] = E j := by simp [List.getD, hj]
      rw [e]
      exact hE j (by omega)
theorem hash_of {fuel : Nat} {cs : List Value} {x : DataW H × List MemPlace} (h : DataW.trod enc Try.prog W base (fun _ => true) held fuel 55 cs = some x) : ∃ X : List (BitVec 8), X.length = 32 ∧ cs = vbs X := by
  obtain ⟨xs, m, _, _, hlen, hxl, hi⟩ := DataW.trod_array Try.underlying55 h
  have h32 : Try.prog.cellsOf 55 = 32 := by kernel_rfl
  have h1 : Try.prog.cellsOf 5 = 1 := by kernel_rfl
  rw [h32] at hlen
  have each : ∀ i, i < 32 → ∃ z : BitVec 8, cs[i]? = some (.int .u8 (Bt z)) := fun i hi' => by
    have hk := hi i hi'
    rw [h1, Nat.mul_one] at hk
    have hx : xs[i]? = some (xs[i]'(by omega)) := List.getElem?_eq_getElem (by omega)
    rw [hx] at hk
    obtain ⟨n, e, _, hwf⟩ := DataW.trod_int Try.underlying5 hk
    have : cs[i]? = some (.int .u8 n) := by
      have e2 : ((cs.drop i).take 1)[0]? = some (.int .u8 n) := by rw [e]; rfl
      simpa using e2
    exact ⟨BitVec.ofInt 8 n, by rw [byte_of hwf]; exact this⟩
  obtain ⟨E, hE⟩ := choose_lt each
  refine ⟨(List.range 32).map E, by simp, ?_⟩
  apply List.ext_getElem?
  intro i
  by_cases hi' : i < 32
  · rw [hE i hi']
    simp [vbs, hi']
  · rw [List.getElem?_eq_none (by omega), List.getElem?_eq_none (by simp [vbs]; omega)]
theorem u32_of {fuel : Nat} {cs : List Value} {x : DataW H × List MemPlace} (h : DataW.trod enc Try.prog W base (fun _ => true) held fuel 29 cs = some x) : ∃ n : Nat, n < 4294967296 ∧ cs = [.int .u32 (n : Int)] := by
  obtain ⟨n, e, _, hwf⟩ := DataW.trod_int Try.underlying29 h
  have hb : 0 ≤ n ∧ n ≤ 4294967295 := by
    have := hwf
    simp [Lit.wf, IntKind.min, IntKind.max, IntKind.signed, IntKind.bits] at this
    omega
  exact ⟨n.toNat, by omega, by rw [e, show ((n.toNat : Nat) : Int) = n by omega]⟩
theorem i64_of {fuel : Nat} {cs : List Value} {x : DataW H × List MemPlace} (h : DataW.trod enc Try.prog W base (fun _ => true) held fuel 2 cs = some x) : ∃ n : Int, -9223372036854775808 ≤ n ∧ n < 9223372036854775808 ∧ cs = [.int .i64 n] := by
  obtain ⟨n, e, _, hwf⟩ := DataW.trod_int Try.underlying2 h
  have hb : -9223372036854775808 ≤ n ∧ n ≤ 9223372036854775807 := by
    have := hwf
    simp [Lit.wf, IntKind.min, IntKind.max, IntKind.signed, IntKind.bits] at this
    omega
  exact ⟨n, by omega, by omega, e⟩
theorem field_of {fuel : Nat} {t : TypeId} {cs : List Value} {x : DataW H × List MemPlace} {fs : Array Field} (ht : Try.prog.underlying t = some (.struct fs)) (h : DataW.trod enc Try.prog W base (fun _ => true) held fuel t cs = some x) (i : Nat) (f : Field) (hf : fs[i]? = some f) :
    ∃ n y, DataW.trod enc Try.prog W base (fun _ => true) held n f.type ((cs.drop f.offset).take (Try.prog.cellsOf f.type)) = some y := by
  obtain ⟨xs, n, _, _, hlen, hxl, hi⟩ := DataW.trod_struct ht h
  have hk := hi i f hf
  have hx : xs[i]? = some (xs[i]'(by have := (Array.getElem?_eq_some_iff.1 hf).1; omega)) := List.getElem?_eq_getElem _
  rw [hx] at hk
  exact ⟨n, _, hk⟩
theorem prev_of {fuel : Nat} {cs : List Value} {x : DataW H × List MemPlace} (h : DataW.trod enc Try.prog W base (fun _ => true) held fuel 57 cs = some x) : ∃ X a, X.length = 32 ∧ a < 4294967296 ∧ cs = prevV X a := by
  have hl : cs.length = 33 := by
    obtain ⟨xs, n, _, _, hlen, _⟩ := DataW.trod_struct Try.underlying57 h
    rw [hlen]; kernel_rfl
  obtain ⟨n1, y1, h1⟩ := field_of Try.underlying57 h 0 _ rfl
  obtain ⟨n2, y2, h2⟩ := field_of Try.underlying57 h 1 _ rfl
  obtain ⟨X, hX, e1⟩ := hash_of h1
  obtain ⟨a, ha, e2⟩ := u32_of h2
  refine ⟨X, a, hX, ha, ?_⟩
  have c1 : Try.prog.cellsOf 55 = 32 := by kernel_rfl
  have c2 : Try.prog.cellsOf 29 = 1 := by kernel_rfl
  have e1' : cs.take 32 = vbs X := by rw [← e1]; simp [c1]
  have e2' : cs.drop 32 = [.int .u32 (a : Int)] := by rw [← e2]; simp [c2, List.take_of_length_le, hl]
  unfold prevV
  rw [← e1', ← e2', List.take_append_drop]
end
end Go.Proofs.Ytnkkhmgplpkjbaa
