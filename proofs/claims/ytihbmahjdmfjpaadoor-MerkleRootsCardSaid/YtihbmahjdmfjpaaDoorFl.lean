/- Lists of hashes that came in; what becomes of a root where the last hashes stand once more. -/
import Derived.Test.YtihbmahjdmfjpaaDoorFk
import Derived.Test.YtihbmahjdmfjpaaDoorRows
import Derived.Test.YtihbmahjdmfjpaaDoorQa
import Derived.Deep.Slices
import Derived.ChangeSlices
import Derived.ProofKit
import Derived.LaidMore
import Derived.OpenShut
import Derived.ChangeOld
namespace Go.Proofs.YtihbmahjdmfjpaaDoor
open Go.RowKit
set_option linter.unusedVariables false
set_option linter.unusedSimpArgs false
set_option maxRecDepth 100000
open Go.ChangeShapes Go.WideShapes Go.ChangeAt Go.RowKit Go.Deep
section
variable {H : Type} {enc : TypeId × Value → H} {W : World} {base : Nat} {held : Bool}
theorem mid_none {w : World} {b o : Nat} {sp : Option _} {v : Value} (h : w.cell? ((⟨b, o, sp⟩ : Addr).add 0) = some v) : sp = none := by
  cases sp with
  | none => rfl
  | some q =>
    exfalso
    have e : (⟨b, o, some q⟩ : Addr).add 0 = ⟨b, o, some q⟩ := by unfold Addr.add; simp
    rw [e] at h
    unfold World.cell? at h
    revert h
    cases w.heap[b]? with
    | none => simp
    | some ob => cases ob <;> simp
theorem hash_of {fuel : Nat} {cs : List Value} {x : DataW H × List MemPlace} (h : DataW.trod enc Tryd.prog W base (fun _ => true) held fuel 25 cs = some x) : ∃ X : List (BitVec 8), X.length = 32 ∧ cs = vbs X := by
  obtain ⟨xs, m, _, _, hlen, hxl, hi⟩ := DataW.trod_array Tryd.underlying25 h
  have h32 : Tryd.prog.cellsOf 25 = 32 := by kernel_rfl
  have h1 : Tryd.prog.cellsOf 5 = 1 := by kernel_rfl
  rw [h32] at hlen
  have each : ∀ i, i < 32 → ∃ z : BitVec 8, cs[i]? = some (.int .u8 (Bt z)) := fun i hi' => by
    have hk := hi i hi'
    rw [h1, Nat.mul_one] at hk
    have hx : xs[i]? = some (xs[i]'(by omega)) := List.getElem?_eq_getElem (by omega)
    rw [hx] at hk
    obtain ⟨n, e, _, hwf⟩ := DataW.trod_int Tryd.underlying5 hk
    have : cs[i]? = some (.int .u8 n) := by
      have e2 : ((cs.drop i).take 1)[0]? = some (.int .u8 n) := by rw [e]; rfl
      simpa using e2
    exact ⟨BitVec.ofInt 8 n, by rw [byte_of hwf]; exact this⟩
  obtain ⟨E, hE⟩ := choose_lt each
  refine ⟨(List.range 32).map E, by simp, ?_⟩
  apply List.ext_getElem?
  intro i
  by_cases hi' : i < 32
  · rw [hE i hi']
    simp [vbs, hi']
  · rw [List.getElem?_eq_none (by omega), List.getElem?_eq_none (by simp [vbs]; omega)]
theorem range_of {b o n : Nat} {cs : List Value} (h : W.cells? base (⟨b, o, none⟩ : Addr) n = some cs) : W.rangeAt b o cs ∧ (0 < n → b < W.heap.size) := by
  obtain ⟨_, hl, hi⟩ := World.cells?_some h
  refine ⟨fun j v hv => ?_, fun hp => ?_⟩
  · have hj : j < n := by rw [← hl]; exact (List.getElem?_eq_some_iff.1 hv).1
    have := hi j hj
    rw [Addr.add_mid] at this
    rw [this]; exact hv
  · have := hi 0 hp
    rw [Addr.add_mid, List.getElem?_eq_getElem (by omega)] at this
    exact World.block_lt_of_cell? W _ this
theorem mid_of {b o n k : Nat} {sp : Option _} {cs : List Value} (h : W.cells? base ((⟨b, o, sp⟩ : Addr).add 0) (n + 1) = some cs) : sp = none := by
  obtain ⟨_, hl, hi⟩ := World.cells?_some h
  have := hi 0 (by omega)
  rw [List.getElem?_eq_getElem (by omega)] at this
  have e : ((⟨b, o, sp⟩ : Addr).add 0).add 0 = (⟨b, o, sp⟩ : Addr).add 0 := by unfold Addr.add; simp
  rw [e] at this
  exact mid_none this
theorem rd_of_ranges {b o s n : Nat} (hs : 0 < s) {L : List (List (BitVec 8))} (hL : LenN s L) (hn : L.length = n) (hb : b < W.heap.size) (h : ∀ j, j < n → W.rangeAt b (o + j * s) (vbs (L.getD j []))) : Rd W W.heap.size (some ⟨b, o, none⟩) L.flatten := fun hp => by
  refine ⟨b, o, rfl, hb, fun j hj => ?_⟩
  rw [hL.flat, hn] at hj
  have hq : j / s < n := Nat.div_lt_of_lt_mul (by rw [Nat.mul_comm]; exact hj)
  have hr : j % s < s := Nat.mod_lt _ hs
  have e : j = j / s * s + j % s := by have := Nat.div_add_mod j s; rw [Nat.mul_comm] at this; omega
  have hv : (vbs (L.getD (j / s) []))[j % s]? = some (.int .u8 (Bt ((L.getD (j / s) []).getD (j % s) 0))) := vbs_at (by rw [hL.at (by omega)]; exact hr)
  have := h (j / s) hq (j % s) _ hv
  rw [← flat_at hL (by omega) hr, ← e, show o + j / s * s + j % s = o + j by omega] at this
  exact this
theorem hs_of {fuel : Nat} {cs : List Value} {x : DataW H × List MemPlace} (h : DataW.trod enc Tryd.prog W base (fun _ => true) held fuel 22 cs = some x) : ∃ A n c L, cs = [.slice A n c] ∧ RdN 32 W A n c L ∧ (A = none → c = 0) := by
  rcases open_slice Tryd.underlying22 h with ⟨hcs, _⟩ | ⟨a, len, cap, m, n, D, Pl, hcs, _, hl, hm, hmm, _, hx⟩
  · exact ⟨none, 0, 0, [], hcs, ⟨(fun x hx => by cases hx), rfl, (fun hp => absurd hp (by simp)), Nat.le_refl _, by omega⟩, fun _ => rfl⟩
  · simp at hmm
    subst hmm
    have c60 : Tryd.prog.cellsOf 25 = 32 := by kernel_rfl
    rw [c60] at hx
    have each : ∀ i, i < m → ∃ t : List (BitVec 8), W.cells? base (a.add (i * 32)) 32 = some (vbs t) ∧ t.length = 32 := fun i hi => by
      obtain ⟨cs', hc, ht⟩ := hx i hi
      obtain ⟨t, e, ok⟩ := hash_of ht
      exact ⟨t, by rw [← ok]; exact hc, e⟩
    obtain ⟨E, hE⟩ := choose_lt each
    have hLn : LenN 32 ((List.range len).map E) := fun y hy => by
      obtain ⟨j, hj, rfl⟩ := List.mem_map.1 hy
      exact (hE j (by have := List.mem_range.1 hj; omega)).2
    refine ⟨some a, len, m, (List.range len).map E, hcs, ⟨hLn, by simp, fun hp => ?_, hl, by unfold maxLen at hm; omega⟩, fun h => by cases h⟩
    have hp' : 0 < len := by
      rw [hLn.flat] at hp
      simp at hp; exact hp
    obtain ⟨b, o, sp⟩ := a
    have hc0 := (hE 0 (by omega)).1
    rw [Nat.zero_mul] at hc0
    obtain rfl := mid_of (n := 31) (k := 0) hc0
    rw [Addr.add_mid] at hc0
    refine rd_of_ranges (n := len) (by omega) hLn (by simp) ((range_of hc0).2 (by omega)) (fun j hj => ?_) hp
    have hc := (hE j (by omega)).1
    rw [Addr.add_mid] at hc
    have e : ((List.range len).map E).getD j [] = E j := by simp [List.getD, hj]
    rw [e]
    exact (range_of hc).1
end
/-! What becomes of a root where the last hashes stand once more. -/
section
variable {tw : List (BitVec 8) → List (BitVec 8)}
theorem rowN_up (L : List (List (BitVec 8))) : ∀ k, rowN tw L (k + 1) = rowN tw (upR tw L) k
  | 0 => rfl
  | k + 1 => by show upR tw (rowN tw L (k + 1)) = upR tw (rowN tw (upR tw L) k); rw [rowN_up L k]
theorem upR_len (L : List (List (BitVec 8))) : (upR tw L).length = upn L.length := by unfold upR; rw [List.length_map, pairsT_len]
theorem nrow_upR {L : List (List (BitVec 8))} (h : ¬ L.length < 2) : nrow L.length = nrow (upR tw L).length + 1 := by
  rw [nrow_up h, upR_len]; unfold upn; rw [if_neg h]
theorem nrow_pos {n : Nat} (h : 0 < n) : ∃ m, nrow n = m + 1 := by
  by_cases h2 : n < 2
  · exact ⟨0, by rw [nrow_lo h2]; omega⟩
  · exact ⟨_, nrow_up h2⟩
theorem root_up {L : List (List (BitVec 8))} (h : ¬ L.length < 2) : rootT tw L = rootT tw (upR tw L) := by
  unfold rootT
  rw [nrow_upR (tw := tw) h]
  obtain ⟨m, hm⟩ := nrow_pos (n := (upR tw L).length) (by rw [upR_len]; unfold upn; rw [if_neg h]; omega)
  rw [hm]
  show (rowN tw L (m + 1)).getD 0 [] = (rowN tw (upR tw L) m).getD 0 []
  rw [rowN_up]
theorem mutK_up (L : List (List (BitVec 8))) : ∀ k, mutK tw L (k + 1) = (repB L || mutK tw (upR tw L) k)
  | 0 => by show (false || repB L) = (repB L || false); simp
  | k + 1 => by
    show (mutK tw L (k + 1) || repB (rowN tw L (k + 1))) = (repB L || (mutK tw (upR tw L) k || repB (rowN tw (upR tw L) k)))
    rw [mutK_up L k, rowN_up, Bool.or_assoc]
theorem mut_up {L : List (List (BitVec 8))} (h : ¬ L.length < 2) : mutT tw L = (repB L || mutT tw (upR tw L)) := by
  unfold mutT
  rw [nrow_upR (tw := tw) h]
  exact mutK_up L _
theorem getD_app_lt {L M : List (List (BitVec 8))} {i : Nat} (h : i < L.length) : (L ++ M).getD i [] = L.getD i [] := by
  simp [List.getD, List.getElem?_append_left h]
theorem getD_app_ge {L M : List (List (BitVec 8))} {i : Nat} (h : L.length ≤ i) : (L ++ M).getD i [] = M.getD (i - L.length) [] := by
  simp [List.getD, List.getElem?_append_right h]
theorem pairs_eq {L M : List (List (BitVec 8))} {m : Nat} (h : ∀ k, k < m → pairT L k = pairT M k) : pairsN L m = pairsN M m := by
  unfold pairsN
  exact List.map_congr_left fun k hk => h k (List.mem_range.1 hk)
theorem up_last {L : List (List (BitVec 8))} (h2 : ¬ L.length < 2) (ho : L.length % 2 = 1) : pairsT (L ++ [L.getD (L.length - 1) []]) = pairsT L := by
  have hl : (L ++ [L.getD (L.length - 1) []]).length = L.length + 1 := by simp
  unfold pairsT
  rw [hl, if_neg h2, if_neg (by omega), show (L.length + 1 + 1) / 2 = (L.length + 1) / 2 by omega]
  refine pairs_eq fun k hk => ?_
  unfold pairT
  rw [hl, getD_app_lt (by omega)]
  congr 1
  by_cases h3 : 2 * k + 1 < L.length
  · rw [show min 2 (L.length + 1 - 2 * k) = 2 by omega, show min 2 (L.length - 2 * k) = 2 by omega, getD_app_lt (by omega)]
  · rw [show min 2 (L.length + 1 - 2 * k) = 2 by omega, show min 2 (L.length - 2 * k) = 1 by omega, getD_app_ge (by omega), show 2 * k + (2 - 1) - L.length = 0 by omega, show 2 * k + (1 - 1) = L.length - 1 by omega]
    rfl
theorem rep_last {L : List (List (BitVec 8))} (h2 : ¬ L.length < 2) (ho : L.length % 2 = 1) : repB (L ++ [L.getD (L.length - 1) []]) = true := by
  refine repB_of (k := L.length / 2) ?_
  unfold repAt
  rw [show (L ++ [L.getD (L.length - 1) []]).length = L.length + 1 by simp, decide_eq_true (show 2 * (L.length / 2) + 1 < L.length + 1 by omega), getD_app_lt (by omega), getD_app_ge (by omega), show 2 * (L.length / 2) + 1 - L.length = 0 by omega, show 2 * (L.length / 2) = L.length - 1 by omega]
  simp
theorem twice_odd {L : List (List (BitVec 8))} (h2 : ¬ L.length < 2) (ho : L.length % 2 = 1) : rootT tw (L ++ [L.getD (L.length - 1) []]) = rootT tw L ∧ mutT tw (L ++ [L.getD (L.length - 1) []]) = true := by
  have h3 : ¬ (L ++ [L.getD (L.length - 1) []]).length < 2 := by simp; omega
  constructor
  · rw [root_up h3, root_up h2]
    unfold upR
    rw [up_last h2 ho]
  · rw [mut_up h3, rep_last h2 ho, Bool.true_or]
theorem up_last2 {L : List (List (BitVec 8))} (h2 : ¬ L.length < 3) (ho : L.length % 2 = 0) : upR tw (L ++ [L.getD (L.length - 2) [], L.getD (L.length - 1) []]) = upR tw L ++ [(upR tw L).getD ((upR tw L).length - 1) []] := by
  have hl : (L ++ [L.getD (L.length - 2) [], L.getD (L.length - 1) []]).length = L.length + 2 := by simp
  have hu : pairsT L = pairsN L (L.length / 2) := by unfold pairsT; rw [if_neg (by omega), show (L.length + 1) / 2 = L.length / 2 by omega]
  have hlast : (upR tw L).getD ((upR tw L).length - 1) [] = tw (pairT L (L.length / 2 - 1)) := by
    rw [upR_len]
    unfold upR
    rw [hu]
    unfold pairsN upn
    rw [if_neg (by omega), show (L.length + 1) / 2 - 1 = L.length / 2 - 1 by omega]
    simp [List.getD, show L.length / 2 - 1 < L.length / 2 by omega]
  rw [hlast]
  unfold upR
  rw [hu]
  have e1 : pairsT (L ++ [L.getD (L.length - 2) [], L.getD (L.length - 1) []]) = pairsN L (L.length / 2) ++ [pairT L (L.length / 2 - 1)] := by
    unfold pairsT
    rw [hl, if_neg (by omega), show (L.length + 2 + 1) / 2 = L.length / 2 + 1 by omega, pairsN_succ]
    congr 1
    · refine pairs_eq fun k hk => ?_
      unfold pairT
      rw [hl, getD_app_lt (by omega), show min 2 (L.length + 2 - 2 * k) = 2 by omega, show min 2 (L.length - 2 * k) = 2 by omega, getD_app_lt (by omega)]
    · unfold pairT
      rw [hl, show min 2 (L.length + 2 - 2 * (L.length / 2)) = 2 by omega, show min 2 (L.length - 2 * (L.length / 2 - 1)) = 2 by omega, getD_app_ge (by omega), getD_app_ge (by omega), show 2 * (L.length / 2) - L.length = 0 by omega, show 2 * (L.length / 2) + (2 - 1) - L.length = 1 by omega, show 2 * (L.length / 2 - 1) = L.length - 2 by omega, show L.length - 2 + (2 - 1) = L.length - 1 by omega]
      rfl
  rw [e1, List.map_append]
  rfl
theorem twice_even {L : List (List (BitVec 8))} (h2 : ¬ L.length < 3) (ho : L.length % 4 = 2) : rootT tw (L ++ [L.getD (L.length - 2) [], L.getD (L.length - 1) []]) = rootT tw L ∧ mutT tw (L ++ [L.getD (L.length - 2) [], L.getD (L.length - 1) []]) = true := by
  have h3 : ¬ (L ++ [L.getD (L.length - 2) [], L.getD (L.length - 1) []]).length < 2 := by simp
  have h4 : (upR tw L).length = L.length / 2 := by rw [upR_len]; unfold upn; rw [if_neg (by omega)]; omega
  obtain ⟨e1, e2⟩ := twice_odd (tw := tw) (L := upR tw L) (by omega) (by omega)
  constructor
  · rw [root_up h3, root_up (L := L) (by omega), up_last2 h2 (by omega), e1]
  · rw [mut_up h3, up_last2 h2 (by omega), e2, Bool.or_true]
end
end Go.Proofs.YtihbmahjdmfjpaaDoor
