/- What is taken, opened: a slice of pairs of numbers reads cell by cell; two readers side by side; quiet calls of both. -/
import Derived.Test.YtalcdejiobpmlaaGd
import Derived.Test.YtalcdejiobpmlaaIb
import Derived.Deep.SlicePairs
import Derived.ProofKit
import Derived.OpenShut
namespace Go.Proofs.Ytalcdejiobpmlaa
open Go.ChangeShapes Go.WideShapes Go.Deep Go.RowKit
set_option linter.unusedVariables false
set_option linter.unusedSimpArgs false
set_option maxRecDepth 100000
/-- What is taken lies at A, below block B. -/
def Tks (w : World) (B : Nat) (A : Option Addr) (L : List (Int × Nat)) : Prop :=
  0 < L.length → ∃ b o, A = some ⟨b, o, none⟩ ∧ b < B ∧ ∀ i, i < L.length → w.cell? ⟨b, o + i * 2, none⟩ = some (.int .i64 (L.getD i (0, 0)).1) ∧ w.cell? ⟨b, o + i * 2 + 1, none⟩ = some (.int .u64 (L.getD i (0, 0)).2)
theorem Tks.keep {w w' : World} {B B' : Nat} {A : Option Addr} {L : List (Int × Nat)} (h : Tks w B A L) (hb : Below B' w w') (hB : B ≤ B') : Tks w' B A L := fun hp => by
  obtain ⟨b, o, e, hlt, hc⟩ := h hp
  refine ⟨b, o, e, hlt, fun i hi => ?_⟩
  rw [hb.cell (p := ⟨b, o + i * 2, none⟩) (by show b < _; omega), hb.cell (p := ⟨b, o + i * 2 + 1, none⟩) (by show b < _; omega)]
  exact hc i hi
theorem cell_mid {w : World} {a : Addr} {v : Value} (h : w.cell? a = some v) : a = ⟨a.block, a.off, none⟩ := by
  obtain ⟨b, o, sp⟩ := a
  cases sp with
  | none => rfl
  | some q =>
    exfalso
    unfold World.cell? at h
    revert h
    cases w.heap[b]? with
    | none => simp
    | some ob => cases ob <;> simp
def numOf : Value → Int | .int _ q => q | _ => 0
theorem tks_of {H : Type} {enc : TypeId × Value → H} {W : World} {base : Nat} {spare : Nat → Bool} {held : Bool} {a : Option Addr} {len cap : Nat} {d : DataW H} {p : List MemPlace} (h : DataW.Trod enc Try.prog W base spare held 30 (.slice a len cap) d p) :
    ∃ M : List (Int × Nat), M.length = len ∧ Tks W W.heap.size a M := by
  obtain ⟨fuel, hf⟩ := h
  rcases open_slice_pairs Try.underlying30 Try.underlying37 (by kernel_rfl) rfl rfl (by kernel_rfl) (by kernel_rfl) hf with ⟨hcs, _⟩ | ⟨x, l, c, m, n, V0, V1, D0, D1, P0, P1, hcs, _, hl, hm, hmm, _, hi⟩
  · simp [Value.cells] at hcs
    obtain ⟨rfl, rfl, rfl⟩ := hcs
    exact ⟨[], rfl, fun hp => by simp at hp⟩
  · simp [Value.cells] at hcs
    obtain ⟨rfl, rfl, rfl⟩ := hcs
    have hlm : len ≤ m := by rw [hmm]; split <;> omega
    have hc : ∀ i, i < len → W.cell? (x.add (i * 2)) = some (.int .i64 (numOf (V0 i))) ∧ W.cell? (x.add (i * 2 + 1)) = some (.int .u64 ((numOf (V1 i)).toNat : Nat)) := fun i hlt => by
      obtain ⟨h0, h1, t0, t1⟩ := hi i (by omega)
      obtain ⟨u, hu, _⟩ := DataW.trod_int (k := .i64) (by kernel_rfl) t0
      obtain ⟨v, hv, _, hw⟩ := DataW.trod_int (k := .u64) (by kernel_rfl) t1
      simp at hu hv
      rw [hu] at h0 ⊢
      rw [hv] at h1 ⊢
      refine ⟨h0, ?_⟩
      rw [h1]
      simp [Lit.wf, IntKind.min, IntKind.max, IntKind.signed, IntKind.bits] at hw
      simp only [numOf]
      rw [Int.toNat_of_nonneg (by omega)]
    refine ⟨(List.range len).map fun i => (numOf (V0 i), (numOf (V1 i)).toNat), by simp, fun hp => ?_⟩
    have h0 : 0 < len := by simpa using hp
    obtain ⟨hc0, _⟩ := hc 0 h0
    obtain ⟨b, o, sp⟩ := x
    have e0 : (⟨b, o, sp⟩ : Addr).add (0 * 2) = ⟨b, o, sp⟩ := by unfold Addr.add; simp
    rw [e0] at hc0
    have hsp : sp = none := by have := cell_mid hc0; injection this
    subst hsp
    refine ⟨b, o, rfl, World.block_lt_of_cell? W _ hc0, fun i hlt => ?_⟩
    have hlt' : i < len := by simpa using hlt
    have hs := hc i hlt'
    rw [Addr.add_mid, Addr.add_mid] at hs
    simp only [List.getD, List.getElem?_map, List.getElem?_range hlt', Option.map_some, Option.getD_some]
    exact ⟨hs.1, by rw [Nat.add_assoc]; exact hs.2⟩
theorem IsR.drewN {w : World} {B : Nat} {p : Option Nat} {s : Option (List (BitVec 8))} (h : IsR w B p s) (k : Nat) : IsR (w.drewN k) B p s := h.keep fun _ _ => rfl
theorem left_q {p : Option Nat} {s : Option (List (BitVec 8))} {B : Nat} {w : World} (h : IsR w B p s) (n : Nat) : Calls Try.prog 22 #[ptr p] (w.drewN n) fun e w'' => e = .returned (.int .i64 (leftS s)) ∧ ∃ m, w'' = w.drewN m :=
  (left_any p s B _ (h.drewN n)).mono fun e w' ⟨he, hw⟩ => ⟨he, n, hw.symm⟩
theorem torn_q {p : Option Nat} {s : Option (List (BitVec 8))} {B : Nat} {w : World} (h : IsR w B p s) (n : Nat) : Calls Try.prog 24 #[ptr p] (w.drewN n) fun e w'' => e = .returned (.bool s.isNone) ∧ ∃ m, w'' = w.drewN m :=
  (torn_any p s B _ (h.drewN n)).mono fun e w' ⟨he, hw⟩ => ⟨he, n, hw.symm⟩
theorem rleft_q {q B a cap : Nat} {gone : Bool} {A : Option Addr} {X : List (BitVec 8)} {w : World} (h : IsQ w B q X a gone A cap) (n : Nat) : Calls Try.prog 23 #[.pointer (some ⟨q, 0, none⟩)] (w.drewN n) fun e w'' => e = .returned (.int .i64 (leftS (stQ X a gone))) ∧ ∃ m, w'' = w.drewN m :=
  (rleft_any q B a cap gone A X _ (h.drewN n)).mono fun e w' ⟨he, k, hk⟩ => ⟨he, n + k, by rw [hk, World.drewN_drewN]⟩
theorem stQ_none (X : List (BitVec 8)) (a : Nat) (gone : Bool) : (stQ X a gone).isNone = gone := by cases gone <;> rfl
theorem blk_ne {w : World} {b : Nat} {T T' : Nat} {vs : List Value} {cur : Array Value} (h : Blk w b T vs) (h' : w.heap[b]? = some (.cells cur T' (0, 0))) (hT : T' ≠ T) : False := by
  unfold Blk at h
  rw [h] at h'
  injection h' with h'
  injection h' with _ h'
  exact hT h'.symm
theorem IsR.blk56 {w : World} {B g : Nat} {s : Option (List (BitVec 8))} (h : IsR w B (some g) s) : ∃ vs, Blk w g 56 vs ∧ noU8 vs := by
  cases s with
  | none => exact ⟨_, (h g rfl).2, noR _ (fun x => by simp) _⟩
  | some L => obtain ⟨g', A, cap, e, _, hb, _⟩ := h; cases e; exact ⟨_, hb, noR _ (fun x => by simp) _⟩
theorem IsQ.otherR {w w' : World} {B B' g q a cap : Nat} {X : List (BitVec 8)} {gone : Bool} {A : Option Addr} {s : Option (List (BitVec 8))} (h : IsQ w B q X a gone A cap) (hg : w.grownBy w' (some g)) (hr : IsR w B' (some g) s) : IsQ w' B q X a gone A cap := by
  obtain ⟨vs, hb, hv⟩ := hr.blk56
  refine ⟨h.blk.same (hg.block q h.blk.lt (fun e => ?_)), h.own.but hb hv fun b hb' hne => hg.block b hb' (fun e => hne (Option.some.inj e)), h.lt, h.le, h.cap_, h.nil_, h.at_⟩
  have e := Option.some.inj e
  subst e
  exact blk_ne hb h.blk (by decide)
theorem IsR.otherQ {w w' : World} {B B' g q a cap : Nat} {X : List (BitVec 8)} {gone : Bool} {A : Option Addr} {s : Option (List (BitVec 8))} (h : IsR w B (some g) s) (hg : w.grownBy w' (some q)) (hq : IsQ w B' q X a gone A cap) : IsR w' B (some g) s := by
  have hk : ∀ b T (cur : Array Value), T ≠ 35 → w.heap[b]? = some (Obj.cells cur T (0, 0)) → w'.heap[b]? = w.heap[b]? := fun b T cur hT hh =>
    hg.block b (Array.getElem?_eq_some_iff.1 hh).1 (fun e => by have e := Option.some.inj e; subst e; exact blk_ne hq.blk hh hT)
  cases s with
  | none => exact fun g' e => ⟨(h g' e).1, (h g' e).2.same (hk g' 56 _ (by decide) (h g' e).2)⟩
  | some L =>
    obtain ⟨g', A', cap', e, hgB, hb', ho, r⟩ := h
    exact ⟨g', A', cap', e, hgB, hb'.same (hk g' 56 _ (by decide) hb'), ho.heap fun b cur _ hh => hk b 5 cur (by decide) hh, r⟩
theorem IsR.up {w : World} {B B' : Nat} {p : Option Nat} {s : Option (List (BitVec 8))} (h : IsR w B p s) (hB : B ≤ B') : IsR w B' p s := by
  cases s with
  | none => exact fun g e => ⟨Nat.lt_of_lt_of_le (h g e).1 hB, (h g e).2⟩
  | some L =>
    obtain ⟨g, A, cap, e, hg, hb, ho, r⟩ := h
    exact ⟨g, A, cap, e, Nat.lt_of_lt_of_le hg hB, hb, ho.up hB, r⟩
theorem stQ_le (L : List (BitVec 8)) (a : Nat) (gone : Bool) (X : List (BitVec 8)) (e : stQ L a gone = some X) : X.length ≤ L.length := by
  cases gone with
  | true => cases e
  | false => cases e; rw [List.length_drop]; omega
end Go.Proofs.Ytalcdejiobpmlaa
