/- What compact.PutText returns. -/
import Derived.Test.YtnkkhmgplpkjbaaDoorCb
import Derived.Outline
namespace Go.Proofs.YtnkkhmgplpkjbaaDoor
open Go.RowKit
set_option linter.unusedVariables false
set_option linter.unusedSimpArgs false
set_option maxRecDepth 100000
theorem put_n (A : Option Addr) (L : List (BitVec 8)) (l cap B : Nat) (n : Nat) (w : World) (hL : L.length = l) (hR : Rd w B A L) (hB : B ≤ w.heap.size) (hl : L.length ≤ 100000000) :
    Calls Tryd.prog 97 #[.slice A l cap, .int .u64 n] w (LaidPost (L ++ form n) w) := by subst hL; exact put_any A L cap B n w hR hB hl
theorem putText_any (A A2 : Option Addr) (L T : List (BitVec 8)) (cap cap2 B : Nat) (w : World) (hR : Rd w B A L) (hR2 : Rd w B A2 T) (hB : B ≤ w.heap.size) (hc2 : A2 = none → cap2 = 0) (hl : L.length ≤ 100000000) (hl2 : T.length ≤ 100000000) :
    Calls Tryd.prog 71 #[.slice A L.length cap, .slice A2 T.length cap2] w (LaidPost (L ++ form T.length ++ T) w) := by
  have K10 := Lib.hid (put_any A L cap B T.length w hR hB hl)
  obtain ⟨l, hll⟩ : ∃ l, l = L.length := ⟨_, rfl⟩
  obtain ⟨m, hmm⟩ : ∃ m, m = T.length := ⟨_, rfl⟩
  have HM := Lib.hid hmm
  have HLl := Lib.hid hll
  have Hl := Lib.hid hl
  have hm8 : m ≤ 100000000 := by omega
  have HR2 := Lib.hid hR2
  have HB := Lib.hid hB
  have Hc2 := Lib.hid hc2
  have HF := Lib.hid (form_len T.length)
  have HW := Lib.hid (wid_le T.length)
  rw [← hll, ← hmm] at K10
  rw [← hmm] at HF HW
  rw [← hll, ← hmm]
  clear hll hmm hR hR2 hB hc2 hl hl2
  go_enter Tryd.func71, Tryd.ntmps71
  go_wp2_with (first
    | (go_at_call 97; (with_reducible refine K10.out.mono ?_); rintro e w1 ⟨v, rfl, hv, hb⟩; have HV := Lib.hid hv; have HB1 := Lib.hid hb; have HS := Lib.hid (src_of_rd (HR2.out.keep (hb.mono HB.out))); clear hv hb; dsimp only)
    | (refine wpList_push (o := ⟨some 11, _, _, _, _, _⟩) rfl (.tmp 9) (.tmp 10) rfl rfl w.heap.size _ _ T rfl HV.out A2 m cap2 rfl HM.out HS.out Hc2.out (by have := HM.out; have := HF.out; have := HW.out; have := HLl.out; have := Hl.out; rw [List.length_append]; omega) HB1.out HB1.out.size (Nat.le_refl _) ?_; intro v3 w3 h1 h2 h3))
  go_ret
  exact ⟨_, rfl, h1, h2⟩
end Go.Proofs.YtnkkhmgplpkjbaaDoor
