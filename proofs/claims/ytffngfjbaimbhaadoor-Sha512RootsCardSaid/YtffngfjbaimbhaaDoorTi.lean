/- The law Sha512Sums returns true for every slice of bytes, in a world whose two tables are as laid. -/
import Derived.Test.YtffngfjbaimbhaaDoorTh
import Derived.Test.YtffngfjbaimbhaaDoorSm
import Derived.Lib.MinMax
import Derived.Outline
namespace Go.Proofs.YtffngfjbaimbhaaDoor
open Go.RowKit
set_option linter.unusedVariables false
set_option linter.unusedSimpArgs false
set_option maxRecDepth 100000
theorem OB.base' {w : World} {B B' : Nat} {v : Value} {L : List (BitVec 8)} (h : OB w B v L) (hB : B' ≤ B) : OB w B' v L := by
  refine ⟨h.1, ?_⟩
  rcases h.2 with hn | ⟨g, cap, cur, rfl, hbb, r⟩
  · exact .inl hn
  · exact .inr ⟨g, cap, cur, rfl, by omega, r⟩
theorem rbytes_w (M : List (BitVec 64)) (n b o cap : Nat) (hM : M.length = n) (hn : n ≤ 4096) (hc : n ≤ cap) (w : World) (hlt : b < w.heap.size)
    (hcell : ∀ j, j < M.length → w.cell? ⟨b, o + j, none⟩ = some (.int .u64 (V (M.getD j 0)))) :
    Calls Tryd.prog 17 #[.slice (some ⟨b, o, none⟩) n cap] w fun e w' => (∃ v, e = .returned v ∧ OB w' w.heap.size v (bws M)) ∧ Below w.heap.size w w' := by
  subst hM; exact rbytes_any M b o cap hn hc w hlt hcell
theorem rsum_any (A : Option Addr) (n cap : Nat) (R : List (BitVec 8)) (w : World) (hn : R.length = n) (hR : Rd w w.heap.size A R) (hcap : R.length ≤ cap) (hA : A = none → cap = 0) (hl : R.length ≤ 4096) :
    Calls Tryd.prog 8 #[.slice A n cap] w fun e w' => ∃ v, e = .returned v ∧ OB w' w.heap.size v (sumB R) ∧ Below w.heap.size w w' := by
  subst hn
  have K1 := Lib.hid (first_any w)
  have K2 : Hid (∀ (g c : Nat) (w1 : World), Below w.heap.size w w1 → RdV w1 w1.heap.size (some ⟨g, 0, none⟩) (stl ini) → 8 ≤ c → Calls Tryd.prog 18 #[.slice (some ⟨g, 0, none⟩) 8 c, .slice A R.length cap] w1 fun e w' => ∃ A' c', e = .returned (.slice A' 8 c') ∧ RdV w' w'.heap.size A' (stl (stK ini (filled R) ((filled R).length / 128))) ∧ 8 ≤ c' ∧ Below w1.heap.size w1 w') := fun g c w1 hb hr hc =>
    rdigest_any ini (some ⟨g, 0, none⟩) A c cap R w1 hr hc ((hR.keep hb).up hb.size) hcap hA hl
  have HE : Hid (bws (stl (stK ini (filled R) ((filled R).length / 128))) = sumB R) := digR_eq ini R
  obtain ⟨S, hS⟩ : ∃ S, S = stK ini (filled R) ((filled R).length / 128) := ⟨_, rfl⟩
  rw [← hS] at K2 HE
  obtain ⟨D, hD⟩ : ∃ D, D = sumB R := ⟨_, rfl⟩
  rw [← hD] at HE ⊢
  obtain ⟨n, hn⟩ : ∃ n, n = R.length := ⟨_, rfl⟩
  rw [← hn] at K2 ⊢
  clear hR hcap hA hl hS hD hn
  go_enter Tryd.func8, Tryd.ntmps8
  go_wp2_with (first
    | (go_at_call 15; (with_reducible refine K1.out.mono ?_); rintro e w1 ⟨g, c, rfl, hr, hc, hb⟩; have K18 : Hid (Calls Tryd.prog 18 #[.slice (some ⟨g, 0, none⟩) (stl ini).length c, .slice A n cap] w1 fun e w' => ∃ A' c', e = .returned (.slice A' 8 c') ∧ RdV w' w'.heap.size A' (stl S) ∧ 8 ≤ c' ∧ Below w1.heap.size w1 w') := K2.out g c w1 hb hr hc; have HB1 := Lib.hid hb; clear hr hc hb K1 K2; dsimp only)
    | (go_at_call 18; (with_reducible refine K18.out.mono ?_); rintro e w2 ⟨A', c', rfl, hr, hc, hb⟩; obtain ⟨b, o, rfl, hbl, hcl⟩ := hr (by simp [stl]); have K17 := Lib.hid (rbytes_w (stl S) 8 b o c' rfl (by omega) hc w2 hbl hcl); have HB2 : Hid (Below w.heap.size w w2) := HB1.out.trans (hb.mono HB1.out.size); clear hr hc hb hbl hcl K18; dsimp only)
    | (go_at_call 17; (with_reducible refine K17.out.mono ?_); rintro e w3 ⟨⟨v, rfl, hv⟩, hb⟩; have HV := Lib.hid hv; have HB3 : Hid (Below w.heap.size w w3) := HB2.out.trans (hb.mono HB2.out.size); clear hv hb K17; dsimp only))
  go_ret
  exact ⟨_, rfl, by rw [← HE.out]; exact HV.out.base' HB2.out.size, HB3.out⟩
theorem cut_row (A : Option Addr) (n cap : Nat) (w : World) (h : n ≤ cap) (hm : cap ≤ 9223372036854775807) : Calls Tryd.prog 6 #[.slice A n cap] w fun e w' => e = .returned (.slice A (min n 2000) cap) ∧ w = w' := by
  by_cases h1 : n ≤ 2000
  · have e : min n 2000 = n := by omega
    have e2 : min (n : Int) 2000 = n := by omega
    rw [e]
    clear e
    go_enter Tryd.func6, Tryd.ntmps6
    go_wp2
    go_ret
    exact ⟨rfl, rfl⟩
  · have e : min n 2000 = 2000 := by omega
    have e2 : min (n : Int) 2000 = 2000 := by omega
    rw [e]
    clear e
    go_enter Tryd.func6, Tryd.ntmps6
    go_wp2
    go_ret
    exact ⟨rfl, rfl⟩
end Go.Proofs.YtffngfjbaimbhaaDoor
