/- The law BytesBack: what things are laid as; the walk of its first loop's round. -/
import Derived.Test.YtnnceicjooahmaaXa
import Derived.Test.YtnnceicjooahmaaKb
import Derived.Outline
namespace Go.Proofs.Ytnnceicjooahmaa
open Go.RowKit
set_option linter.unusedVariables false
set_option linter.unusedSimpArgs false
def encT (T : Th) : List (BitVec 8) := if T.W = 0 then T.Bs else if T.W = 9 then T.H else les T.N T.W.toNat
def okT (T : Th) : Prop := T.Bs.length ≤ 1000 ∧ (T.W = 0 ∨ T.W = 9 ∨ (isW T.W = true ∧ T.N < 2 ^ (8 * T.W.toNat)))
def encL (L : List Th) : List (BitVec 8) := L.flatMap encT
theorem encL_snoc (L : List Th) (T : Th) : encL (L ++ [T]) = encL L ++ encT T := by simp [encL]
theorem encT_len {T : Th} (h : okT T) (h32 : T.H.length = 32) : (encT T).length ≤ 1000 := by
  obtain ⟨h1, h2⟩ := h
  unfold encT
  by_cases h0 : T.W = 0
  · rw [if_pos h0]; exact h1
  · rw [if_neg h0]
    by_cases h9 : T.W = 9
    · rw [if_pos h9, h32]; omega
    · rw [if_neg h9, les_len]
      rcases h2 with h | h | h
      · exact absurd h h0
      · exact absurd h h9
      · have := isW_pos h.1; omega
theorem encL_len : ∀ (L : List Th), (∀ T ∈ L, okT T ∧ T.H.length = 32) → (encL L).length ≤ 1000 * L.length
  | [], _ => by simp [encL]
  | T :: r, h => by
    have h1 := encT_len (h T (List.mem_cons_self)).1 (h T (List.mem_cons_self)).2
    have h2 := encL_len r fun T' hT => h T' (List.mem_cons_of_mem _ hT)
    have e : encL (T :: r) = encT T ++ encL r := by simp [encL]
    rw [e, List.length_append, List.length_cons]
    omega
def zeroT : Th := ⟨0, 0, none, 0, [], Z32⟩
theorem zero50 : ∀ w, (zeroValue 50).run Try.prog w = .ok (.agg (thv zeroT).toArray) w := fun _ => by kernel_rfl
theorem info50 : (Try.prog.info? 50).map (·.size) = some 35 := by kernel_rfl
theorem i50 {T : Th} (h : T.H.length = 32) : (Try.prog.info? 50).map (·.size) = some (thv T).length := by rw [thv_len h]; exact info50
theorem thv_one (T : Th) : ∀ v ∈ thv T, v.oneCell' = true := by
  intro v hv
  simp only [thv, List.mem_cons] at hv
  rcases hv with rfl | rfl | rfl | hv
  · rfl
  · rfl
  · rfl
  · exact vbs_one _ v hv
/-- What holds at the head of each round of the loop that lays the things. -/
def HeadB (w : World) (M : List Th) (m : Nat) (v i : Value) (wr : World) : Prop :=
  ∃ k : Nat, k ≤ m ∧ i = .int .i64 k ∧ OB wr w.heap.size v (encL (M.take k)) ∧ (∀ T ∈ M.take k, okT T) ∧ Below w.heap.size w wr
theorem headB_next {w w9 : World} {M : List Th} {m k : Nat} {T : Th} {v : Value} (hlt : k < m) (hTk : M[k]? = some T) (hk : ∀ T ∈ M.take k, okT T) (hT : okT T) (ho : OB w9 w.heap.size v (encL (M.take k) ++ encT T)) (hb : Below w.heap.size w w9) : HeadB w M m v (.int .i64 ((k : Int) + 1)) w9 := by
  have e : M.take (k + 1) = M.take k ++ [T] := by rw [List.take_add_one, hTk]; rfl
  refine ⟨k + 1, by omega, by simp, by rw [e, encL_snoc]; exact ho, fun T' hT' => ?_, hb⟩
  rw [e] at hT'
  rcases List.mem_append.1 hT' with h | h
  · exact hk T' h
  · obtain rfl : T' = T := by simpa using h
    exact hT
theorem slice42o (b o : Nat) (w : World) : (Instr.sliceAt 42 (.pointer (some ⟨b, o, none⟩)) none none none).run Try.prog w = .ok (.slice (some ⟨b, o, none⟩) 32 32) w := by
  rw [run_sliceAt_array_all w 42 _ (by kernel_rfl)]
  have hs : (sizeOf (Try.prog.elem 42)).run Try.prog w = .ok 1 w := by kernel_rfl
  have hl : Try.prog.arrayLen 42 = 32 := by kernel_rfl
  rw [hs, hl]
  rfl
theorem src_hash {w : World} {g : Nat} {T : Th} (h32 : T.H.length = 32) (h : Blk w g 50 (thv T)) : Src22 w (some ⟨g, 3, none⟩) 32 (vbs T.H) :=
  ⟨by rw [vbs_len]; exact h32, fun _ => ⟨⟨g, 3, none⟩, rfl, fun j u hj => by
    rw [Addr.add_mid]
    refine h.cell ?_
    rw [show 3 + j = j + 3 by omega]
    simpa [thv] using hj⟩, vbs_one _⟩
/-- What holds at the head of each round of the loop that takes the things. -/
def HeadR (w : World) (B g : Nat) (M : List Th) (m : Nat) (i : Value) (wr : World) : Prop :=
  ∃ j : Nat, j ≤ m ∧ i = .int .i64 j ∧ IsR wr B (some g) (some (encL (M.drop j))) ∧ Below w.heap.size w wr ∧ B ≤ wr.heap.size
theorem encL_drop_le (M : List Th) (j : Nat) : (encL (M.drop j)).length ≤ (encL M).length := by
  have e : encL M = encL (M.take j) ++ encL (M.drop j) := by unfold encL; rw [← List.flatMap_append, List.take_append_drop]
  rw [e, List.length_append]; omega
theorem has_app (X r : List (BitVec 8)) : hasB (some (X ++ r)) X.length = true := by simp [hasB]; omega
theorem takeL_app (X r : List (BitVec 8)) : takeL (some (X ++ r)) X.length = X := by rw [(cut_yes (has_app X r)).1]; simp
theorem cutS_app (X r : List (BitVec 8)) : cutS (some (X ++ r)) X.length = some r := by rw [(cut_yes (has_app X r)).2.1]; simp
theorem hash_app (X r : List (BitVec 8)) (h : X.length = 32) : hashL (some (X ++ r)) = X := by
  have h1 : hasB (some (X ++ r)) 32 = true := by have := has_app X r; rw [h] at this; exact this
  have h2 : takeL (some (X ++ r)) 32 = X := by have := takeL_app X r; rw [h] at this; exact this
  unfold hashL
  rw [if_pos h1]; exact h2
theorem lev_les (n : Nat) : ∀ k, lev (les n k) = n % 2 ^ (8 * k)
  | 0 => by simp [les, lev, Nat.mod_one]
  | k + 1 => by
    rw [les_succ, lev_app, lev_les n k, les_len]
    rw [show 8 * (k + 1) = 8 * k + 8 by omega, Nat.pow_add, Nat.mod_mul]
    simp [lev]
theorem numV_app (n : Nat) (k : Int) (r : List (BitVec 8)) (hw : isW k = true) (hn : n < 2 ^ (8 * k.toNat)) : numV (some (les n k.toNat ++ r)) k = n := by
  have hk := isW_pos hw
  have h2 := takeL_app (les n k.toNat) r
  rw [les_len, show ((k.toNat : Nat) : Int) = k by omega] at h2
  unfold numV
  rw [if_pos hw, h2, lev_les, Nat.mod_eq_of_lt hn]
theorem numS_app (n : Nat) (k : Int) (r : List (BitVec 8)) (hw : isW k = true) : numS (some (les n k.toNat ++ r)) k = some r := by
  have hk := isW_pos hw
  have h2 := cutS_app (les n k.toNat) r
  rw [les_len, show ((k.toNat : Nat) : Int) = k by omega] at h2
  unfold numS
  rw [if_pos hw, h2]
def SX (g : Nat) (A : Option Addr) (n c : Nat) (s : ByteArray) (w : World) : Prop := w.cell? ⟨g, 2, none⟩ = some (.slice A n c) ∧ (convert 22 9 (.slice A n c)).run Try.prog w = .ok (.string s) w
def SH (g : Nat) (H : List (BitVec 8)) (w : World) : Prop := w.rangeAt g 3 (vbs H)
def SN (g : Nat) (W : Int) (N : Nat) (w : World) : Prop := w.cell? ⟨g, 0, none⟩ = some (.int .i64 W) ∧ w.cell? ⟨g, 1, none⟩ = some (.int .u64 N)
theorem conv_x {w w' : World} {T : Th} {A : Option Addr} {n c : Nat} {s : ByteArray} (h : ThOk w w.heap.size T) (hb : Below w.heap.size w w') (hA : A = T.A) (hc : c = T.cap) (hn : n = T.Bs.length) (hs : s = strB T.Bs) : (convert 22 9 (.slice A n c)).run Try.prog w' = .ok (.string s) w' := by
  subst hA hc hs
  exact conv_n (h.rd.keep hb) hn
theorem back_big (A : Option Addr) (n cap : Nat) (w : World) (h : 30 < n) :
    Calls Try.prog 6 #[.slice A n cap] w fun e w' => e = .returned (.bool true) ∧ Below w.heap.size w w' := by
  have KA := Lib.hid (awake_any w)
  have h1' : (30 : Int) < (n : Int) := by omega
  go_enter Try.func6, Try.ntmps6
  go_wp2_with (go_at_call 8; (with_reducible refine KA.out.mono ?_); rintro e w1 ⟨rfl, hb⟩; dsimp only)
  go_ret
  exact ⟨rfl, hb⟩
set_option maxRecDepth 100000 in
set_option maxHeartbeats 4000000 in
theorem back_walk (A : Option Addr) (cap : Nat) (M : List Th) (w : World) (hM : Things w w.heap.size A M) :
    Calls Try.prog 6 #[.slice A M.length cap] w fun e w' => e = .returned (.bool true) ∧ Below w.heap.size w w' := by
  by_cases hbig : 30 < M.length
  · exact back_big A M.length cap w hbig
  · obtain ⟨m, hm⟩ : ∃ m, m = M.length := ⟨_, rfl⟩
    have h1 : m ≤ 30 := by omega
    have h1i : (m : Int) ≤ 30 := by omega
    have HM := Lib.hid hm
    have HT := Lib.hid hM
    have HZ := Lib.hid zero50
    rw [← hm]
    clear hbig hm hM
    go_enter Try.func6, Try.ntmps6
    go_wp2_with fail
    go_loopw [3, 4] (fun v i wr => HeadB w M m v i wr) (fun _ i _ => m - (intOf i).toNat)
    case atStart => exact ⟨0, Nat.zero_le _, rfl, OB.nil _ _, (fun T hT => by simp at hT), Below.refl _ _⟩
    case round =>
      obtain ⟨k, hk, rfl, hO, hOk, hB⟩ := hrel
      have HOr := Lib.hid hO
      have HKr := Lib.hid hOk
      have HBr := Lib.hid hB
      by_cases hlt : k < m
      · obtain ⟨b, o, rfl, hbl, hcell⟩ := HT.out.2 (by have := HM.out; omega)
        obtain ⟨T, hTk⟩ : ∃ T, M[k]? = some T := ⟨M[k]'(by have := HM.out; omega), List.getElem?_eq_getElem _⟩
        have hrg := hcell k T hTk
        have hok := HT.out.1 T (List.mem_of_getElem? hTk)
        have hRg : Hid (wr.rangeAt b (o + k * 35) (thv T)) := fun j v hv => by
          rw [hB.cell (p := ⟨b, _, none⟩) hbl]; exact hrg j v hv
        have HOk := Lib.hid hok
        have HTk := Lib.hid hTk
        have HI50 := Lib.hid (i50 hok.h32)
        have hz := HZ.out
        have k0 : (0 : Int) ≤ (k : Int) := by omega
        have hnew := Blk.new wr 50 (thv zeroT).toArray
        have HTh : Hid ((wr.alloc (.cells (thv zeroT).toArray 50)).there wr.heap.size 0 (thv T).toArray.size) := by
          have := hnew.there
          rw [show (thv zeroT).toArray.toList.length = (thv T).toArray.size by rw [List.toList_toArray, List.size_toArray, thv_len hok.h32]; rfl] at this
          exact this
        have HInf : Hid ((Try.prog.info? 50).map (·.size) = some (thv T).toArray.size) := info_arr (i50 hok.h32)
        have HOne : Hid ((thv T).toArray.all (·.oneCell') = true) := all_oneCell_toArray (thv_one T)
        have hS2 : Blk ((wr.alloc (.cells (thv zeroT).toArray 50)).setCells wr.heap.size 0 (thv T)) wr.heap.size 50 (thv T) := hnew.setCells (thv T) (by rw [List.toList_toArray, thv_len hok.h32]; rfl)
        have hB2 : Below w.heap.size w ((wr.alloc (.cells (thv zeroT).toArray 50)).setCells wr.heap.size 0 (thv T)) := below_setCells hB.size (thv T) 0 _ (hB.alloc hB.size _)
        have hB22 : Below wr.heap.size wr ((wr.alloc (.cells (thv zeroT).toArray 50)).setCells wr.heap.size 0 (thv T)) := below_setCells (Nat.le_refl _) (thv T) 0 _ ((Below.refl _ _).alloc (Nat.le_refl _) _)
        have HS2 := Lib.hid hS2
        have HB2 := Lib.hid hB2
        have HB22 := Lib.hid hB22
        clear hO hOk hB hTk hrg hok hnew hS2 hB2 hB22 hcell hbl
        go_upto_region 8 with (first
          | (refine wpList_load_mid (op := ⟨some 24, _, _, _, _, _⟩) rfl 50 (.tmp 23) rfl b (o + k * 35) rfl (thv T) _ hRg.out Try.underlying50 rfl HI50.out ?_)
          | (refine wpList_store_mid (op := ⟨none, _, _, _, _, _⟩) rfl 50 (.tmp 5) (.tmp 24) rfl wr.heap.size 0 (thv T).toArray rfl rfl HTh.out HInf.out HOne.out ?_))
        generalize hgx : wr.heap.size = gx at HS2 HTh HB2 HB22 ⊢
        generalize hW2 : (wr.alloc (Obj.cells (thv zeroT).toArray 50)).setCells gx 0 (thv T) = W2 at HS2 HB2 HB22 ⊢
        have c0 := HS2.out.cell (j := 0) (v := .int .i64 T.W) rfl
        have c1 := HS2.out.cell (j := 1) (v := .int .u64 T.N) rfl
        have c2 := HS2.out.cell (j := 2) (v := .slice T.A T.Bs.length T.cap) rfl
        have Hgx := Lib.hid hgx
        clear hgx hW2 hz HTh HInf HOne hRg HI50
        obtain ⟨tW, htW⟩ : ∃ x, x = T.W := ⟨_, rfl⟩
        obtain ⟨tN, htN⟩ : ∃ x, x = T.N := ⟨_, rfl⟩
        obtain ⟨tA, htA⟩ : ∃ x, x = T.A := ⟨_, rfl⟩
        obtain ⟨tc, htc⟩ : ∃ x, x = T.cap := ⟨_, rfl⟩
        obtain ⟨tl, htl⟩ : ∃ x, x = T.Bs.length := ⟨_, rfl⟩
        rw [← htW] at c0
        rw [← htN] at c1
        rw [← htA, ← htl, ← htc] at c2
        have HtW := Lib.hid htW
        have HtN := Lib.hid htN
        have HtA := Lib.hid htA
        have Htc := Lib.hid htc
        have Htl := Lib.hid htl
        clear htW htN htA htc htl
        by_cases hlong : 1000 < tl
        · have hl1 : (1000 : Int) < (tl : Int) := by omega
          have KA := Lib.hid (awake_any W2)
          go_wp2_with (go_at_call 8; (with_reducible refine KA.out.mono ?_); rintro e w9 ⟨rfl, hb9⟩; dsimp only)
          go_ret
          exact ⟨rfl, HB2.out.trans (hb9.mono HB2.out.size)⟩
        · have hl1 : ¬ (1000 : Int) < (tl : Int) := by omega
          have hl2 : tl ≤ 1000 := by omega
          obtain ⟨Ab, cb, rfl, hrb, _, _, hzb⟩ := HOr.out.rd
          obtain ⟨E, hE⟩ : ∃ E, E = encL (M.take k) := ⟨_, rfl⟩
          have HE := Lib.hid hE
          have hEl : E.length ≤ 30000 := by
            rw [hE]
            have := encL_len (M.take k) fun T' hT' => ⟨HKr.out T' hT', (HT.out.1 T' (List.mem_of_mem_take hT')).h32⟩
            have := List.length_take_le k M
            omega
          have HOE : Hid (OB W2 w.heap.size (.slice Ab E.length cb) E) := show OB W2 w.heap.size (.slice Ab E.length cb) E by
            rw [hE]; exact HOr.out.below (B' := 0) (Hgx.out ▸ HB22.out)
          rw [← hE] at hrb ⊢
          clear hE
          by_cases hW0 : tW = 0
          · subst hW0
            have hsr : Src22 W2 tA tl (vbs T.Bs) := by
              rw [HtA.out, Htl.out]
              exact src_of_rd (HOk.out.rd.keep HB2.out)
            have Hsr := Lib.hid hsr
            have HNil : Hid (tA = none → tc = 0) := fun h => by rw [Htc.out]; exact HOk.out.nil_ (HtA.out ▸ h)
            have HLe : Hid (E.length + T.Bs.length ≤ 140737488355328) := show E.length + T.Bs.length ≤ 140737488355328 by have := Htl.out; omega
            clear hrb hzb hsr
            go_wp2_with (refine wpList_push (o := ⟨some 55, _, _, _, _, _⟩) rfl (.tmp 52) (.tmp 54) rfl rfl w.heap.size _ E T.Bs rfl HOE.out tA tl tc rfl Htl.out (Htl.out ▸ Hsr.out) HNil.out HLe.out HB2.out HB2.out.size (Nat.le_refl _) ?_; intro v9 w9 ho9 hb9 hb9')
            go_roundw
            case rel => exact headB_next hlt HTk.out HKr.out ⟨by rw [← Htl.out]; exact hl2, .inl HtW.out.symm⟩ (by unfold encT; rw [if_pos HtW.out.symm, ← HE.out]; exact ho9) hb9
            case measure => simp [intOf]; omega
          · have e0 : (tW == 0) = false := by simpa using hW0
            by_cases hW9 : tW = 9
            · subst hW9
              have hsl := slice42o gx 3 W2
              have hsr : Src22 W2 (some ⟨gx, 3, none⟩) 32 (vbs T.H) := src_hash HOk.out.h32 HS2.out
              have Hsr := Lib.hid hsr
              have HLe : Hid (E.length + T.H.length ≤ 140737488355328) := show E.length + T.H.length ≤ 140737488355328 by have := HOk.out.h32; omega
              have H32 : Hid (32 = T.H.length) := HOk.out.h32.symm
              clear hrb hzb hsr
              go_wp2_with (refine wpList_push (o := ⟨some 61, _, _, _, _, _⟩) rfl (.tmp 58) (.tmp 60) rfl rfl w.heap.size _ E T.H rfl HOE.out (some ⟨gx, 3, none⟩) 32 32 rfl H32.out (H32.out ▸ Hsr.out) (fun h => by cases h) HLe.out HB2.out HB2.out.size (Nat.le_refl _) ?_; intro v9 w9 ho9 hb9 hb9')
              go_roundw
              case rel => exact headB_next hlt HTk.out HKr.out ⟨by rw [← Htl.out]; exact hl2, .inr (.inl HtW.out.symm)⟩ (by unfold encT; rw [if_neg (by rw [← HtW.out]; decide), if_pos HtW.out.symm, ← HE.out]; exact ho9) hb9
              case measure => simp [intOf]; omega
            · have e9 : (tW == 9) = false := by simpa using hW9
              have K9 := Lib.hid (put_n Ab E E.length cb _ tW tN W2 rfl (hrb.keep (Hgx.out ▸ HB22.out)) (Nat.le_of_lt (Nat.lt_of_le_of_lt (by rw [Hgx.out]; exact Nat.le_refl _) HS2.out.lt)) (by rw [HtN.out]; exact HOk.out.n64) (by omega))
              by_cases hok : isW tW = true ∧ tN < 2 ^ (8 * tW.toNat)
              · have HV := Lib.hid hok
                clear hrb hzb hok
                go_wp2_with (go_at_call 9; (with_reducible refine K9.out.mono ?_); rintro e w9 ⟨hb9, hy, hx⟩; obtain ⟨v9, rfl, ho9⟩ := hy HV.out; clear hy hx; dsimp only)
                go_roundw
                case rel => exact headB_next hlt HTk.out HKr.out ⟨by rw [← Htl.out]; exact hl2, .inr (.inr (by rw [← HtW.out, ← HtN.out]; exact HV.out))⟩ (by unfold encT; rw [if_neg (by rw [← HtW.out]; exact hW0), if_neg (by rw [← HtW.out]; exact hW9), ← HtW.out, ← HtN.out, ← HE.out]; exact ho9.base HB2.out.size) (HB2.out.trans (hb9.mono HB2.out.size))
                case measure => simp [intOf]; omega
              · have HV := Lib.hid hok
                have KA := Lib.hid awake_any
                clear hrb hzb hok
                go_wp2_with (first
                  | (go_at_call 9; (with_reducible refine K9.out.mono ?_); rintro e w9 ⟨hb9, hy, hx⟩; obtain rfl := hx HV.out; clear hy hx; dsimp only)
                  | (go_at_call 8; (with_reducible refine (KA.out _).mono ?_); rintro e w10 ⟨rfl, hb10⟩; dsimp only))
                go_ret
                exact ⟨rfl, HB2.out.trans ((hb9.trans (hb10.mono hb9.size)).mono HB2.out.size)⟩
      · obtain rfl : k = m := by omega
        rw [show M.take k = M from List.take_of_length_le (by have := HM.out; omega)] at hO hOk
        obtain ⟨Ab, cb, rfl, hrb, _, _, hzb⟩ := hO.rd
        have HOkM := Lib.hid hOk
        have hEl : (encL M).length ≤ 30000 := by
          have := encL_len M fun T' hT' => ⟨hOk T' hT', (HT.out.1 T' hT').h32⟩
          have := HM.out
          omega
        obtain ⟨B0, hB0⟩ : ∃ B0, B0 = wr.heap.size := ⟨_, rfl⟩
        have KO := Lib.hid (open_any Ab (encL M) cb _ wr hrb (Nat.le_refl _) hzb (by omega))
        obtain ⟨l, hl⟩ : ∃ l, l = (encL M).length := ⟨_, rfl⟩
        rw [← hl] at KO ⊢
        have hlE : l ≤ 30000 := by omega
        have HLE := Lib.hid hEl
        clear hO hOk hB hrb hzb hl hEl HOr HKr
        go_upto_region 20 with (go_at_call 11; (with_reducible refine KO.out.mono ?_); rintro e w2 ⟨g, rfl, hi, hg1, hg2, hb2⟩; dsimp only)
        have HI2 := Lib.hid hi
        have HB2 : Hid (Below w.heap.size w w2) := HBr.out.trans (hb2.mono HBr.out.size)
        have Hlo : Hid (w.heap.size ≤ g) := Nat.le_trans HBr.out.size hg1
        have Hg2 := Lib.hid hg2
        clear hi hg1 hg2 hb2 KO hB0
        obtain ⟨wq0, rfl⟩ : ∃ wq0 : World, wq0 = wr := ⟨_, rfl⟩
        go_wp2_with fail
        go_loopw [9] (fun i wr2 => HeadR w (g + 1) g M k i wr2) (fun i _ => k - (intOf i).toNat)
        case atStart => exact ⟨0, Nat.zero_le _, rfl, HI2.out, HB2.out, Hg2.out⟩
        case round =>
          obtain ⟨j, hj, rfl, hI, hBw, hS⟩ := hrel
          obtain ⟨wr2, rfl⟩ : ∃ wr2 : World, wr2 = wr := ⟨_, rfl⟩
          have HI := Lib.hid hI
          have HBw := Lib.hid hBw
          have HSw := Lib.hid hS
          by_cases hlt2 : j < k
          · obtain ⟨b, o, rfl, hbl, hcell⟩ := HT.out.2 (by have := HM.out; omega)
            obtain ⟨T, hTk⟩ : ∃ T, M[j]? = some T := ⟨M[j]'(by have := HM.out; omega), List.getElem?_eq_getElem _⟩
            have hrg := hcell j T hTk
            have hok := HT.out.1 T (List.mem_of_getElem? hTk)
            have hRg : Hid (wr2.rangeAt b (o + j * 35) (thv T)) := fun j' v hv => by
              rw [hBw.cell (p := ⟨b, _, none⟩) hbl]; exact hrg j' v hv
            have HOk := Lib.hid hok
            have HokT := Lib.hid (HOkM.out T (List.mem_of_getElem? hTk))
            obtain ⟨rest, hrest⟩ : ∃ r, r = encL (M.drop (j + 1)) := ⟨_, rfl⟩
            have HEq : Hid (encL (M.drop j) = encT T ++ rest) := by
              have e : M.drop j = T :: M.drop (j + 1) := by
                obtain ⟨hl, he⟩ := List.getElem?_eq_some_iff.1 hTk
                rw [List.drop_eq_getElem_cons hl, he]
              show encL (M.drop j) = encT T ++ rest
              rw [e, hrest]; simp [encL]
            have Hrest := Lib.hid hrest
            have HLr : Hid ((encT T ++ rest).length ≤ 30000) := show (encT T ++ rest).length ≤ 30000 by
              rw [← HEq.out]
              exact Nat.le_trans (encL_drop_le M j) HLE.out
            have HI50 := Lib.hid (i50 hok.h32)
            have hz := HZ.out
            have k0 : (0 : Int) ≤ (j : Int) := by omega
            have hnew := Blk.new wr2 50 (thv zeroT).toArray
            have HTh : Hid ((wr2.alloc (.cells (thv zeroT).toArray 50)).there wr2.heap.size 0 (thv T).toArray.size) := by
              have := hnew.there
              rw [show (thv zeroT).toArray.toList.length = (thv T).toArray.size by rw [List.toList_toArray, List.size_toArray, thv_len hok.h32]; rfl] at this
              exact this
            have HInf : Hid ((Try.prog.info? 50).map (·.size) = some (thv T).toArray.size) := info_arr (i50 hok.h32)
            have HOne : Hid ((thv T).toArray.all (·.oneCell') = true) := all_oneCell_toArray (thv_one T)
            have hS2 : Blk ((wr2.alloc (.cells (thv zeroT).toArray 50)).setCells wr2.heap.size 0 (thv T)) wr2.heap.size 50 (thv T) := hnew.setCells (thv T) (by rw [List.toList_toArray, thv_len hok.h32]; rfl)
            have hB22 : Below wr2.heap.size wr2 ((wr2.alloc (.cells (thv zeroT).toArray 50)).setCells wr2.heap.size 0 (thv T)) := below_setCells (Nat.le_refl _) (thv T) 0 _ ((Below.refl _ _).alloc (Nat.le_refl _) _)
            have HS2 := Lib.hid hS2
            have HB22 := Lib.hid hB22
            clear hI hBw hS hTk hrg hok hnew hS2 hB22 hcell hbl hrest
            go_upto_region 24 with (first
              | (refine wpList_load_mid (op := ⟨some 73, _, _, _, _, _⟩) rfl 50 (.tmp 72) rfl b (o + j * 35) rfl (thv T) _ hRg.out Try.underlying50 rfl HI50.out ?_)
              | (refine wpList_store_mid (op := ⟨none, _, _, _, _, _⟩) rfl 50 (.tmp 10) (.tmp 73) rfl wr2.heap.size 0 (thv T).toArray rfl rfl HTh.out HInf.out HOne.out ?_))
            generalize hgx : wr2.heap.size = gx at HS2 HTh HB22 HSw ⊢
            generalize hW2 : (wr2.alloc (Obj.cells (thv zeroT).toArray 50)).setCells gx 0 (thv T) = W2 at HS2 HB22 ⊢
            have hB2' : Below w.heap.size w W2 := HBw.out.trans (HB22.out.mono (by rw [← hgx]; exact HBw.out.size))
            have HB2w := Lib.hid hB2'
            have hI2 : IsR W2 (g + 1) (some g) (some (encT T ++ rest)) := by rw [← HEq.out]; exact HI.out.below HB22.out HSw.out
            have HI2' := Lib.hid hI2
            have HgW : Hid (g + 1 ≤ W2.heap.size) := Nat.le_trans HSw.out (Nat.le_of_lt HS2.out.lt)
            have Hgx : Hid (gx ≠ g) := show gx ≠ g by have := HSw.out; omega
            have c0 := HS2.out.cell (j := 0) (v := .int .i64 T.W) rfl
            have c1 := HS2.out.cell (j := 1) (v := .int .u64 T.N) rfl
            have c2 := HS2.out.cell (j := 2) (v := .slice T.A T.Bs.length T.cap) rfl
            have hr3 : W2.rangeAt gx 3 (vbs T.H) := fun j' v hv => HS2.out.cell (by rw [show 3 + j' = j' + 3 by omega]; simpa [thv] using hv)
            have HR3 := Lib.hid hr3
            clear hgx hW2 hz HTh HInf HOne hRg HI50 hB2' hI2 hr3
            obtain ⟨tW, htW⟩ : ∃ x, x = T.W := ⟨_, rfl⟩
            obtain ⟨tN, htN⟩ : ∃ x, x = T.N := ⟨_, rfl⟩
            obtain ⟨tA, htA⟩ : ∃ x, x = T.A := ⟨_, rfl⟩
            obtain ⟨tc, htc⟩ : ∃ x, x = T.cap := ⟨_, rfl⟩
            obtain ⟨tl, htl⟩ : ∃ x, x = T.Bs.length := ⟨_, rfl⟩
            rw [← htW] at c0
            rw [← htN] at c1
            rw [← htA, ← htl, ← htc] at c2
            have HtW := Lib.hid htW
            have HtN := Lib.hid htN
            have HtA := Lib.hid htA
            have Htc := Lib.hid htc
            have Htl := Lib.hid htl
            clear htW htN htA htc htl
            by_cases hW0 : tW = 0
            · subst hW0
              have HT0 : Hid (encT T = T.Bs) := show encT T = T.Bs by unfold encT; rw [if_pos HtW.out.symm]
              have K14 : Hid (Calls Try.prog 14 #[ptr (some g), .int .i64 tl] W2.drew (NewPost T.Bs (some rest) (g + 1) (some g) W2.drew)) :=
                take_w W2.drew g (g + 1) (encT T ++ rest) tl T.Bs (some rest) (by rw [HT0.out, Htl.out]; exact takeL_app _ _) (by rw [HT0.out, Htl.out]; exact cutS_app _ _) (HI2'.out.drewN 1) HgW.out (by have := HLr.out; omega)
              obtain ⟨sx, hsx⟩ : ∃ sx, sx = strB T.Bs := ⟨_, rfl⟩
              have HSx := Lib.hid hsx
              have HC0 : Hid (SX gx tA tl tc sx W2.drew) := ⟨c2, conv_x HOk.out HB2w.out.drew HtA.out Htc.out Htl.out HSx.out⟩
              have es : (sx.toList == sx.toList) = true := beq_self_eq_true _
              clear hsx
              go_upto_region 28 with fail
              refine wp_region_but (z := 999) (SX gx tA tl tc sx) (by kernel_rfl) ?_
              have hS : (SX gx tA tl tc sx) W2.drew := HC0.out
              refine AnyBut.takeE (i := 0) (v := ?_) rfl (by kernel_rfl) (by kernel_rfl) (by kernel_rfl) (by kernel_rfl) (fun _ _ _ h => h) (Or.inl ⟨by rfl, ?_⟩) hS ?_
              rotate_left
              · (intro wq hq; go_simp; try with_reducible rfl)
              try simp only [Act.put, List.setIfInBounds_toArray, List.set_cons_zero, List.set_cons_succ, List.getElem_toArray, List.getElem_cons_zero, List.getElem_cons_succ]
              refine AnyBut.takeE (i := 1) (v := ?_) rfl (by kernel_rfl) (by kernel_rfl) (by kernel_rfl) (by kernel_rfl) (fun _ _ _ h => h) (Or.inl ⟨by rfl, ?_⟩) hS ?_
              rotate_left
              · (intro wq hq; go_simp; try with_reducible rfl)
              try simp only [Act.put, List.setIfInBounds_toArray, List.set_cons_zero, List.set_cons_succ, List.getElem_toArray, List.getElem_cons_zero, List.getElem_cons_succ]
              refine AnyBut.takeE (i := 2) (v := ?_) rfl (by kernel_rfl) (by kernel_rfl) (by kernel_rfl) (by kernel_rfl) (fun _ _ _ h => h) (Or.inl ⟨by rfl, ?_⟩) hS ?_
              rotate_left
              · (intro wq hq; obtain ⟨d0, d1⟩ := hq; go_simp; try with_reducible rfl)
              try simp only [Act.put, List.setIfInBounds_toArray, List.set_cons_zero, List.set_cons_succ, List.getElem_toArray, List.getElem_cons_zero, List.getElem_cons_succ]
              refine AnyBut.takeE (i := 3) (v := ?_) rfl (by kernel_rfl) (by kernel_rfl) (by kernel_rfl) (by kernel_rfl) (fun _ _ _ h => h) (Or.inl ⟨by rfl, ?_⟩) hS ?_
              rotate_left
              · (intro wq hq; go_simp; try with_reducible rfl)
              try simp only [Act.put, List.setIfInBounds_toArray, List.set_cons_zero, List.set_cons_succ, List.getElem_toArray, List.getElem_cons_zero, List.getElem_cons_succ]
              refine AnyBut.takeE (i := 6) (v := ?_) rfl (by kernel_rfl) (by kernel_rfl) (by kernel_rfl) (by kernel_rfl) (fun _ _ _ h => h) (Or.inl ⟨by rfl, ?_⟩) hS ?_
              rotate_left
              · (intro wq hq; go_simp; try with_reducible rfl)
              try simp only [Act.put, List.setIfInBounds_toArray, List.set_cons_zero, List.set_cons_succ, List.getElem_toArray, List.getElem_cons_zero, List.getElem_cons_succ]
              refine AnyBut.takeE (i := 7) (v := ?_) rfl (by kernel_rfl) (by kernel_rfl) (by kernel_rfl) (by kernel_rfl) (fun _ _ _ h => h) (Or.inl ⟨by rfl, ?_⟩) hS ?_
              rotate_left
              · (intro wq hq; obtain ⟨d0, d1⟩ := hq; go_simp; try with_reducible rfl)
              try simp only [Act.put, List.setIfInBounds_toArray, List.set_cons_zero, List.set_cons_succ, List.getElem_toArray, List.getElem_cons_zero, List.getElem_cons_succ]
              refine AnyBut.takeE (i := 8) (v := .string sx) rfl (by kernel_rfl) (by kernel_rfl) (by kernel_rfl) (by kernel_rfl) (fun _ _ _ h => h) (Or.inl ⟨by rfl, ?_⟩) hS ?_
              · intro wq hq
                go_simp
                rw [show (convert 22 9 (.slice tA tl tc)).run Try.prog wq = .ok (.string sx) wq from hq.2]
                rfl
              try simp only [Act.put, List.setIfInBounds_toArray, List.set_cons_zero, List.set_cons_succ, List.getElem_toArray, List.getElem_cons_zero, List.getElem_cons_succ]
              refine AnyBut.gone (i := 4) (by kernel_rfl) rfl (by rfl) (fun K hK => ?_)
              go_simp
              (with_reducible refine K14.out.mono ?_)
              rintro e w6 ⟨v6, rfl, ho6, hi6, hg6'⟩
              have hg6 : W2.grownBy w6 (some g) := ⟨hg6'.os, hg6'.tape, hg6'.output, hg6'.size, hg6'.block⟩
              obtain ⟨A6, c6, rfl, hr6, _, _, _⟩ := ho6.rd
              dsimp only
              have e2 := conv_n (c := c6) hr6 rfl
              rw [← HSx.out] at e2
              have HB6 : Hid (Below w.heap.size w w6) := HB2w.out.grown hg6 HB2w.out.size (fun k e => by have := Option.some.inj e; have := Hlo.out; omega)
              have HZ6 : Hid (g + 1 ≤ w6.heap.size) := Nat.le_trans HgW.out hg6.size
              have hS : SX gx tA tl tc sx w6 := ⟨hg6.cell c2 (fun e => Hgx.out (Option.some.inj e)), conv_x HOk.out HB6.out HtA.out Htc.out Htl.out HSx.out⟩
              have HI6 := Lib.hid hi6
              clear ho6 hi6 hg6 hg6' hr6
              refine hK _ _ (fun _ => hS) ?_
              clear hK K
              try simp only [Act.put, List.setIfInBounds_toArray, List.set_cons_zero, List.set_cons_succ, List.getElem_toArray, List.getElem_cons_zero, List.getElem_cons_succ]
              refine AnyBut.gone (i := 5) (by kernel_rfl) rfl (by rfl) (fun K hK => ?_)
              go_simp
              refine hK _ _ (fun _ => hS) ?_
              clear hK K
              try simp only [Act.put, List.setIfInBounds_toArray, List.set_cons_zero, List.set_cons_succ, List.getElem_toArray, List.getElem_cons_zero, List.getElem_cons_succ]
              refine AnyBut.gone (i := 9) (by kernel_rfl) rfl (by rfl) (fun K hK => ?_)
              go_simp
              refine hK _ _ (fun _ => hS) ?_
              clear hK K
              refine AnyBut.done (by kernel_rfl) ?_ _
              dsimp only [Exit.then]
              clear hS HC0
              go_wp2
              go_roundw
              case rel => exact ⟨j + 1, by omega, by go_num, by rw [← Hrest.out]; exact HI6.out, HB6.out, HZ6.out⟩
              case measure => simp [intOf]; omega
            · have e0 : (tW == 0) = false := by simpa using hW0
              by_cases hW9 : tW = 9
              · subst hW9
                have HT0 : Hid (encT T = T.H) := show encT T = T.H by unfold encT; rw [if_neg (by rw [← HtW.out]; decide), if_pos HtW.out.symm]
                have h32 := HOk.out.h32
                have K16 : Hid (Calls Try.prog 16 #[ptr (some g)] W2.drew (HashPost T.H (some rest) (g + 1) (some g) W2.drew)) := by
                  have h := hash_any (some g) (some (encT T ++ rest)) (g + 1) W2.drew (HI2'.out.drewN 1) HgW.out
                  have a1 : hashL (some (encT T ++ rest)) = T.H := by rw [HT0.out]; exact hash_app _ _ h32
                  have a2 : cutS (some (encT T ++ rest)) 32 = some rest := by rw [HT0.out]; have := cutS_app T.H rest; rwa [h32] at this
                  rw [a1, a2] at h
                  exact h
                have hneq := fun wx => neq_same T.H h32 wx
                have HC0 : Hid (SH gx T.H W2.drew) := HR3.out
                have HI42 := Lib.hid (i42 (show (vbs T.H).length = 32 by rw [vbs_len]; exact h32))
                clear h32
                go_upto_region 31 with fail
                refine wp_region_but (z := 999) (SH gx T.H) (by kernel_rfl) ?_
                have hS : (SH gx T.H) W2.drew := HC0.out
                refine AnyBut.takeE (i := 0) (v := ?_) rfl (by kernel_rfl) (by kernel_rfl) (by kernel_rfl) (by kernel_rfl) (fun _ _ _ h => h) (Or.inl ⟨by rfl, ?_⟩) hS ?_
                rotate_left
                · (intro wq hq; go_simp; try with_reducible rfl)
                try simp only [Act.put, List.setIfInBounds_toArray, List.set_cons_zero, List.set_cons_succ, List.getElem_toArray, List.getElem_cons_zero, List.getElem_cons_succ]
                refine AnyBut.takeE (i := 2) (v := ?_) rfl (by kernel_rfl) (by kernel_rfl) (by kernel_rfl) (by kernel_rfl) (fun _ _ _ h => h) (Or.inl ⟨by rfl, ?_⟩) hS ?_
                rotate_left
                · (intro wq hq; go_simp; try with_reducible rfl)
                try simp only [Act.put, List.setIfInBounds_toArray, List.set_cons_zero, List.set_cons_succ, List.getElem_toArray, List.getElem_cons_zero, List.getElem_cons_succ]
                refine AnyBut.takeE (i := 3) (v := .agg (vbs T.H).toArray) rfl (by kernel_rfl) (by kernel_rfl) (by kernel_rfl) (by kernel_rfl) (fun _ _ _ h => h) ?_ hS ?_
                · exact yieldsIf_load_mid (by rfl) 42 (.tmp 99) rfl gx 3 rfl (vbs T.H) _ (fun _ h => h) Try.underlying42 rfl HI42.out
                try simp only [Act.put, List.setIfInBounds_toArray, List.set_cons_zero, List.set_cons_succ, List.getElem_toArray, List.getElem_cons_zero, List.getElem_cons_succ]
                refine AnyBut.gone (i := 1) (by kernel_rfl) rfl (by rfl) (fun K hK => ?_)
                go_simp
                (with_reducible refine K16.out.mono ?_)
                rintro e w6 ⟨rfl, hi6, hg6'⟩
                have hg6 : W2.grownBy w6 (some g) := ⟨hg6'.os, hg6'.tape, hg6'.output, hg6'.size, hg6'.block⟩
                dsimp only
                have HB6 : Hid (Below w.heap.size w w6) := HB2w.out.grown hg6 HB2w.out.size (fun k e => by have := Option.some.inj e; have := Hlo.out; omega)
                have HZ6 : Hid (g + 1 ≤ w6.heap.size) := Nat.le_trans HgW.out hg6.size
                have hS : SH gx T.H w6 := fun j' v hv => hg6.cell (HR3.out j' v hv) (fun e => Hgx.out (Option.some.inj e))
                have HI6 := Lib.hid hi6
                clear hi6 hg6 hg6'
                refine hK _ _ (fun _ => hS) ?_
                clear hK K
                try simp only [Act.put, List.setIfInBounds_toArray, List.set_cons_zero, List.set_cons_succ, List.getElem_toArray, List.getElem_cons_zero, List.getElem_cons_succ]
                refine AnyBut.gone (i := 4) (by kernel_rfl) rfl (by rfl) (fun K hK => ?_)
                go_simp
                refine hK _ _ (fun _ => hS) ?_
                clear hK K
                refine AnyBut.done (by kernel_rfl) ?_ _
                dsimp only [Exit.then]
                clear hS HC0
                go_wp2
                go_roundw
                case rel => exact ⟨j + 1, by omega, by go_num, by rw [← Hrest.out]; exact HI6.out, HB6.out, HZ6.out⟩
                case measure => simp [intOf]; omega
              · have e9 : (tW == 9) = false := by simpa using hW9
                have hok3 : isW tW = true ∧ tN < 2 ^ (8 * tW.toNat) := by
                  rcases HokT.out.2 with h | h | h
                  · exact absurd (HtW.out.trans h) hW0
                  · exact absurd (HtW.out.trans h) hW9
                  · rw [HtW.out, HtN.out]; exact h
                have HT0 : Hid (encT T = les tN tW.toNat) := show encT T = les tN tW.toNat by unfold encT; rw [if_neg (by rw [← HtW.out]; exact hW0), if_neg (by rw [← HtW.out]; exact hW9), HtN.out, HtW.out]
                have K12 : Hid (Calls Try.prog 12 #[ptr (some g), .int .i64 tW] W2.drew (NumPost tN (some rest) (g + 1) (some g) W2.drew)) :=
                  num_w W2.drew g (g + 1) (encT T ++ rest) tW tN (some rest) (by rw [HT0.out]; exact numV_app _ _ _ hok3.1 hok3.2) (by rw [HT0.out]; exact numS_app _ _ _ hok3.1) (HI2'.out.drewN 1) HgW.out
                have HC0 : Hid (SN gx tW tN W2.drew) := ⟨c0, c1⟩
                clear hok3
                go_upto_region 25 with fail
                refine wp_region_but (z := 999) (SN gx tW tN) (by kernel_rfl) ?_
                have hS : (SN gx tW tN) W2.drew := HC0.out
                refine AnyBut.takeE (i := 0) (v := ?_) rfl (by kernel_rfl) (by kernel_rfl) (by kernel_rfl) (by kernel_rfl) (fun _ _ _ h => h) (Or.inl ⟨by rfl, ?_⟩) hS ?_
                rotate_left
                · (intro wq hq; go_simp; try with_reducible rfl)
                try simp only [Act.put, List.setIfInBounds_toArray, List.set_cons_zero, List.set_cons_succ, List.getElem_toArray, List.getElem_cons_zero, List.getElem_cons_succ]
                refine AnyBut.takeE (i := 1) (v := ?_) rfl (by kernel_rfl) (by kernel_rfl) (by kernel_rfl) (by kernel_rfl) (fun _ _ _ h => h) (Or.inl ⟨by rfl, ?_⟩) hS ?_
                rotate_left
                · (intro wq hq; go_simp; try with_reducible rfl)
                try simp only [Act.put, List.setIfInBounds_toArray, List.set_cons_zero, List.set_cons_succ, List.getElem_toArray, List.getElem_cons_zero, List.getElem_cons_succ]
                refine AnyBut.takeE (i := 2) (v := ?_) rfl (by kernel_rfl) (by kernel_rfl) (by kernel_rfl) (by kernel_rfl) (fun _ _ _ h => h) (Or.inl ⟨by rfl, ?_⟩) hS ?_
                rotate_left
                · (intro wq hq; obtain ⟨d0, d1⟩ := hq; go_simp; try with_reducible rfl)
                try simp only [Act.put, List.setIfInBounds_toArray, List.set_cons_zero, List.set_cons_succ, List.getElem_toArray, List.getElem_cons_zero, List.getElem_cons_succ]
                refine AnyBut.takeE (i := 4) (v := ?_) rfl (by kernel_rfl) (by kernel_rfl) (by kernel_rfl) (by kernel_rfl) (fun _ _ _ h => h) (Or.inl ⟨by rfl, ?_⟩) hS ?_
                rotate_left
                · (intro wq hq; go_simp; try with_reducible rfl)
                try simp only [Act.put, List.setIfInBounds_toArray, List.set_cons_zero, List.set_cons_succ, List.getElem_toArray, List.getElem_cons_zero, List.getElem_cons_succ]
                refine AnyBut.takeE (i := 5) (v := ?_) rfl (by kernel_rfl) (by kernel_rfl) (by kernel_rfl) (by kernel_rfl) (fun _ _ _ h => h) (Or.inl ⟨by rfl, ?_⟩) hS ?_
                rotate_left
                · (intro wq hq; obtain ⟨d0, d1⟩ := hq; go_simp; try with_reducible rfl)
                try simp only [Act.put, List.setIfInBounds_toArray, List.set_cons_zero, List.set_cons_succ, List.getElem_toArray, List.getElem_cons_zero, List.getElem_cons_succ]
                refine AnyBut.gone (i := 3) (by kernel_rfl) rfl (by rfl) (fun K hK => ?_)
                go_simp
                (with_reducible refine K12.out.mono ?_)
                rintro e w6 ⟨rfl, hi6, hg6'⟩
                have hg6 : W2.grownBy w6 (some g) := ⟨hg6'.os, hg6'.tape, hg6'.output, hg6'.size, hg6'.block⟩
                dsimp only
                have HB6 : Hid (Below w.heap.size w w6) := HB2w.out.grown hg6 HB2w.out.size (fun k e => by have := Option.some.inj e; have := Hlo.out; omega)
                have HZ6 : Hid (g + 1 ≤ w6.heap.size) := Nat.le_trans HgW.out hg6.size
                have hS : SN gx tW tN w6 := ⟨hg6.cell c0 (fun e => Hgx.out (Option.some.inj e)), hg6.cell c1 (fun e => Hgx.out (Option.some.inj e))⟩
                have HI6 := Lib.hid hi6
                clear hi6 hg6 hg6'
                refine hK _ _ (fun _ => hS) ?_
                clear hK K
                try simp only [Act.put, List.setIfInBounds_toArray, List.set_cons_zero, List.set_cons_succ, List.getElem_toArray, List.getElem_cons_zero, List.getElem_cons_succ]
                refine AnyBut.gone (i := 6) (by kernel_rfl) rfl (by rfl) (fun K hK => ?_)
                go_simp
                refine hK _ _ (fun _ => hS) ?_
                clear hK K
                refine AnyBut.done (by kernel_rfl) ?_ _
                dsimp only [Exit.then]
                clear hS HC0
                go_wp2
                go_roundw
                case rel => exact ⟨j + 1, by omega, by go_num, by rw [← Hrest.out]; exact HI6.out, HB6.out, HZ6.out⟩
                case measure => simp [intOf]; omega
          · obtain rfl : j = k := by omega
            rw [show encL (M.drop j) = [] by rw [List.drop_of_length_le (by have := HM.out; omega)]; rfl] at hI
            have K23 := Lib.hid (end_any _ _ _ _ hI)
            have K22 := Lib.hid (torn_any _ _ _ _ hI)
            have K20 := Lib.hid (left_any _ _ _ _ hI)
            have KA := Lib.hid (awake_any wr2)
            clear hI hBw hS
            go_wp2_with (first
              | (go_at_call 23; (with_reducible refine K23.out.mono ?_); rintro e wt ⟨rfl, rfl⟩; dsimp only [endS, List.isEmpty])
              | (go_at_call 22; (with_reducible refine K22.out.mono ?_); rintro e wt ⟨rfl, rfl⟩; dsimp only [Option.isNone])
              | (go_at_call 20; (with_reducible refine K20.out.mono ?_); rintro e wt ⟨rfl, rfl⟩; dsimp only [leftS, List.length])
              | (go_at_call 8; (with_reducible refine KA.out.mono ?_); rintro e w9 ⟨rfl, hb9⟩; dsimp only))
            go_ret
            exact ⟨rfl, HBw.out.trans (hb9.mono HBw.out.size)⟩
end Go.Proofs.Ytnnceicjooahmaa
