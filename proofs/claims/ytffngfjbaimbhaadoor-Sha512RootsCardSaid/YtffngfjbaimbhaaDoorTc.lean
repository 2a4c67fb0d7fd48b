/- What the document's own Filled returns: the bytes, filled up. -/
import Derived.Test.YtffngfjbaimbhaaDoorTb
import Derived.Test.YtffngfjbaimbhaaDoorSg
import Derived.Outline
namespace Go.Proofs.YtffngfjbaimbhaaDoor
open Go.RowKit
set_option linter.unusedVariables false
set_option linter.unusedSimpArgs false
/-- How many noughts stand behind the mark. -/
def zn (n : Nat) : Nat := (239 - n % 128) % 128
/-- The length's bytes. -/
def lb (len : BitVec 64) (j : Nat) : BitVec 8 := if j < 8 then byteW (len >>> 61) j else byteW (len <<< 3) (j - 8)
def lbs (len : BitVec 64) (k : Nat) : List (BitVec 8) := (List.range k).map (lb len)
theorem lbs_len (len : BitVec 64) (k : Nat) : (lbs len k).length = k := by simp [lbs]
theorem lbs_succ (len : BitVec 64) (k : Nat) : lbs len (k + 1) = lbs len k ++ [lb len k] := by simp [lbs, List.range_succ]
def mk (R : List (BitVec 8)) (k : Nat) : List (BitVec 8) := R ++ 128 :: List.replicate k 0
theorem mk_len (R : List (BitVec 8)) (k : Nat) : (mk R k).length = R.length + 1 + k := by simp [mk]; omega
theorem mk_succ (R : List (BitVec 8)) (k : Nat) : mk R (k + 1) = mk R k ++ [0] := by simp [mk, List.replicate_succ']
def filled (R : List (BitVec 8)) : List (BitVec 8) := mk R (zn R.length) ++ lbs (BitVec.ofNat 64 R.length) 16
theorem lb_low (len : BitVec 64) (j : Nat) (h : j < 7) : lb len j = 0 := by
  rw [lb, if_pos (by omega), byteW]
  apply BitVec.eq_of_getLsbD_eq
  intro i hi
  rw [BitVec.getLsbD_setWidth, BitVec.getLsbD_ushiftRight, BitVec.getLsbD_ushiftRight, BitVec.getLsbD_of_ge _ _ (by omega)]
  simp
theorem lb_mid (len : BitVec 64) : IntKind.u8.wrap (V len / 2 ^ 61) = Bt (lb len 7) := by
  have := byteW_val (len >>> 61) 7
  rw [← V_shr] at this
  simpa [lb] using this
theorem lb_high (len : BitVec 64) (j : Nat) (h : 8 ≤ j) : IntKind.u8.wrap (V (len <<< 3) / 2 ^ (56 - 8 * (j - 8))) = Bt (lb len j) := by
  rw [byteW_val, lb, if_neg (by omega)]
theorem V_nat (n : Nat) : IntKind.u64.wrap (n : Int) = V (BitVec.ofNat 64 n) := by
  rw [IntKind.wrap_u64]; unfold V; simp
set_option maxRecDepth 100000 in
set_option maxHeartbeats 2000000 in
theorem filled_any (A : Option Addr) (cap : Nat) (R : List (BitVec 8)) (w : World) (hR : Rd w w.heap.size A R) (hcap : R.length ≤ cap) (hA : A = none → cap = 0) (hl : R.length ≤ 4096) :
    Calls Tryd.prog 25 #[.slice A R.length cap] w fun e w' => (∃ v, e = .returned v ∧ OB w' w.heap.size v (filled R)) ∧ Below w.heap.size w w' := by
  have HS := Lib.hid (src_of_rd hR)
  have HO := Lib.hid (OB.nil w w.heap.size)
  have HB0 := Lib.hid (Below.refl w.heap.size w)
  have Hc := Lib.hid hA
  have HL := Lib.hid hl
  have HLe : Hid (([] : List (BitVec 8)).length + R.length ≤ 140737488355328) := show ([] : List (BitVec 8)).length + R.length ≤ 140737488355328 by simp; omega
  obtain ⟨n, hn⟩ : ∃ n, n = R.length := ⟨_, rfl⟩
  have HN := Lib.hid hn
  rw [← hn]
  clear hR hcap hA hl hn
  go_enter Tryd.func25, Tryd.ntmps25
  go_upto_region 3 with (refine wpList_push (o := ⟨some 10, _, _, _, _, _⟩) rfl (.tmp 8) (.tmp 9) rfl rfl w.heap.size _ [] R rfl HO.out A n cap rfl HN.out HS.out Hc.out HLe.out HB0.out (Nat.le_refl _) (Nat.le_refl _) ?_; intro v1 w1 ho1 hb1 hb1')
  have HO1 : Hid (OB (w1.alloc (.cells #[.int .u8 128] 5)) w.heap.size v1 ([] ++ R)) := ho1.alloc _
  have hs1 : Hid (Src22 (w1.alloc (.cells #[.int .u8 128] 5)) (some ⟨w1.heap.size, 0, none⟩) 1 (vbs [128])) := src_one w1 128
  have HB1 : Hid (Below w.heap.size w (w1.alloc (.cells #[.int .u8 128] 5))) := hb1.alloc hb1.size _
  have HSz : Hid (w.heap.size ≤ (w1.alloc (.cells #[.int .u8 128] 5)).heap.size) := HB1.out.size
  have HLe1 : Hid (([] ++ R).length + [(128 : BitVec 8)].length ≤ 140737488355328) := show ([] ++ R).length + [(128 : BitVec 8)].length ≤ 140737488355328 by have := HL.out; simp; omega
  clear ho1 hb1 hb1'
  go_upto_region 4 with (refine wpList_push (o := ⟨some 13, _, _, _, _, _⟩) rfl (.tmp 11) (.tmp 12) rfl rfl w.heap.size _ _ [128] rfl HO1.out (some ⟨w1.heap.size, 0, none⟩) 1 1 rfl (one_len _) hs1.out (fun h => by cases h) HLe1.out HB1.out HSz.out (Nat.le_refl _) ?_; intro v2 w2 ho2 hb2 hb2')
  have HO2 : Hid (OB w2 w.heap.size v2 (mk R 0)) := Lib.hid (by have := ho2; simpa [mk] using this)
  have HB2 := Lib.hid hb2
  clear ho2 hb2 hb2' HO1 hs1 HB1 HSz HLe1
  go_loopw [3] (fun v wr => ∃ (k : Nat) (A1 : Option Addr) (c1 : Nat), k ≤ zn n ∧ v = .slice A1 (n + 1 + k) c1 ∧ OB wr w.heap.size v (mk R k) ∧ Below w.heap.size w wr) (fun v _ => n + 200 - lenOf v)
  case atStart =>
    have ho := HO2.out
    obtain ⟨A1, c1, rfl, _⟩ := ho.rd
    exact ⟨0, A1, c1, Nat.zero_le _, by rw [mk_len, HN.out], ho, HB2.out⟩
  case round =>
    obtain ⟨k, A1, c1, hk, rfl, ho, hb⟩ := hrel
    have hz : zn n ≤ 127 := by unfold zn; omega
    have hn := HL.out
    rw [← HN.out] at hn
    have HOr : Hid (OB (wr.alloc (.cells #[.int .u8 0] 5)) w.heap.size (.slice A1 (n + 1 + k) c1) (mk R k)) := ho.alloc _
    have hsr : Hid (Src22 (wr.alloc (.cells #[.int .u8 0] 5)) (some ⟨wr.heap.size, 0, none⟩) 1 (vbs [0])) := src_one wr 0
    have HBr : Hid (Below w.heap.size w (wr.alloc (.cells #[.int .u8 0] 5))) := hb.alloc hb.size _
    have HSzr : Hid (w.heap.size ≤ (wr.alloc (.cells #[.int .u8 0] 5)).heap.size) := HBr.out.size
    have HLer : Hid ((mk R k).length + [(0 : BitVec 8)].length ≤ 140737488355328) := show (mk R k).length + [(0 : BitVec 8)].length ≤ 140737488355328 by rw [mk_len, ← HN.out]; simp; omega
    have HOq := Lib.hid ho
    have HBq := Lib.hid hb
    clear ho hb HO2 HB2
    obtain ⟨m, hm⟩ : ∃ m, m = n + 1 + k := ⟨_, rfl⟩
    rw [← hm] at HOr HOq ⊢
    have hmt : ((m : Int).tmod 128) = ((m % 128 : Nat) : Int) := rfl
    have hme : ((m : Int) % 128) = ((m % 128 : Nat) : Int) := by omega
    by_cases hlt : k < zn n
    · have hr : m % 128 ≠ 112 := by unfold zn at hlt hz; omega
      have hri : ¬ ((m % 128 : Nat) : Int) = 112 := by omega
      go_wp2_with (refine wpList_push (o := ⟨some 20, _, _, _, _, _⟩) rfl (.tmp 18) (.tmp 19) rfl rfl w.heap.size _ _ [0] rfl HOr.out (some ⟨wr.heap.size, 0, none⟩) 1 1 rfl (one_len _) hsr.out (fun h => by cases h) HLer.out HBr.out HSzr.out (Nat.le_refl _) ?_; intro v3 w3 ho3 hb3 hb3')
      go_roundw
      case rel =>
        rw [← mk_succ] at ho3
        obtain ⟨A3, c3, rfl, _⟩ := ho3.rd
        exact ⟨k + 1, A3, c3, by omega, by rw [mk_len, HN.out], ho3, hb3⟩
      case measure =>
        rw [← mk_succ] at ho3
        obtain ⟨A3, c3, rfl, _⟩ := ho3.rd
        simp [lenOf, mk_len]; rw [← HN.out]; omega
    · obtain rfl : k = zn n := by omega
      have hr : m % 128 = 112 := by unfold zn at hm; omega
      have hri : ((m % 128 : Nat) : Int) = 112 := by omega
      go_upto_region 7 with fail
      have HOz := HOq
      have HBz := HBq
      obtain ⟨P, hP⟩ : ∃ P, P = mk R (zn n) := ⟨_, rfl⟩
      have HP := Lib.hid hP
      have HPl : Hid (P.length ≤ 8192) := by rw [hP, mk_len, ← HN.out]; have := hz; exact Lib.hid (show n + 1 + zn n ≤ 8192 by omega)
      rw [← hP] at HOz
      clear HOq HBq HOr hsr HBr HSzr HLer hP hmt hme hri hr hm
      obtain ⟨len, hlen⟩ : ∃ len, len = BitVec.ofNat 64 n := ⟨_, rfl⟩
      have HLn := Lib.hid hlen
      have hn8 : (n : Int) * 8 = V (len <<< 3) := by
        rw [hlen]; unfold V; rw [BitVec.toNat_shiftLeft, BitVec.toNat_ofNat, Nat.shiftLeft_eq]; omega
      have hn61 : IntKind.u8.wrap ((n : Int) / 2305843009213693952) = Bt (lb len 7) := by
        rw [← lb_mid, hlen]; unfold V; rw [BitVec.toNat_ofNat, Nat.mod_eq_of_lt (by omega)]; rfl
      clear hlen
      go_wp2_with fail
      generalize (Value.slice A1 m c1) = v0 at HOz ⊢
      go_loopw [3, 5] (fun v i wr => ∃ j : Nat, j ≤ 16 ∧ i = .int .i64 (15 - (j : Int)) ∧ OB wr w.heap.size v (P ++ lbs len j) ∧ Below w.heap.size w wr) (fun _ i _ => (intOf i + 1).toNat)
      case atStart => exact ⟨0, Nat.zero_le _, rfl, by simpa [lbs] using HOz.out, HBz.out⟩
      case round =>
        obtain ⟨j, hj, rfl, ho, hb⟩ := hrel
        have HLe : Hid (∀ x : BitVec 8, (P ++ lbs len j).length + [x].length ≤ 140737488355328) := fun x => by have := HPl.out; rw [List.length_append, lbs_len]; simp; omega
        clear HOz HBz
        by_cases hlt : j < 16
        · obtain ⟨s, hs⟩ : ∃ s : Nat, s = 15 - j := ⟨_, rfl⟩
          have hsi : (15 : Int) - (j : Int) = (s : Int) := by omega
          rw [hsi]
          have Hs := Lib.hid hs
          have s0 : (0 : Int) ≤ (s : Int) := by omega
          have s16 : (s : Int) < 16 := by omega
          obtain ⟨x, hx⟩ : ∃ x, x = lb len j := ⟨_, rfl⟩
          have Hx := Lib.hid hx
          have HOo := Lib.hid (ho.alloc (.cells #[.int .u8 (Bt x)] 5))
          have hs1 := Lib.hid (src_one wr x)
          have HBo := Lib.hid (hb.alloc hb.size (.cells #[.int .u8 (Bt x)] 5))
          have HSz : Hid (w.heap.size ≤ (wr.alloc (.cells #[.int .u8 (Bt x)] 5)).heap.size) := HBo.out.size
          clear ho hb
          by_cases h7 : j < 7
          · have hx0 : (0 : Int) = Bt x := by rw [hx, lb_low len j h7]; rfl
            have c1 : ¬ 8 * (s : Int) < 64 := by omega
            have c2 : ¬ 8 * (s : Int) = 64 := by omega
            clear hx hn61 hn8 hs hsi
            have hx1 : Value.int .u8 0 = Value.int .u8 (Bt x) := congrArg _ hx0
            clear hx0
            go_upto_region 16 with fail
            try rw [hx1]
            clear hx1
            go_wp2_with (refine wpList_push (o := ⟨some 46, _, _, _, _, _⟩) rfl (.tmp 43) (.tmp 45) rfl rfl w.heap.size _ _ [x] rfl HOo.out (some ⟨wr.heap.size, 0, none⟩) 1 1 rfl (one_len _) hs1.out (fun h => by cases h) (HLe.out x) HBo.out HSz.out (Nat.le_refl _) ?_; intro v3 w3 ho3 hb3 hb3')
            go_roundw
            case rel =>
              have hs := Hs.out
              have ho4 : OB w3 w.heap.size v3 (P ++ lbs len (j + 1)) := by rw [lbs_succ, ← Hx.out, ← List.append_assoc]; exact ho3
              refine ⟨j + 1, by omega, ?_⟩
              first
                | exact ⟨by omega, ho4, hb3⟩
                | exact ⟨by omega, ho4⟩
                | exact ⟨congrArg (Value.int .i64) (by omega), ho4, hb3⟩
            case measure => have hs := Hs.out; simp [intOf]; omega
          · by_cases h8 : j < 8
            · have h77 : j = 7 := by omega
              rw [← h77, ← hx] at hn61
              have c1 : ¬ 8 * (s : Int) < 64 := by omega
              have c2 : 8 * (s : Int) = 64 := by omega
              clear hx hn8 h77 hs hsi
              go_upto_region 16 with fail
              try rw [hn61]
              clear hn61
              go_wp2_with (refine wpList_push (o := ⟨some 46, _, _, _, _, _⟩) rfl (.tmp 43) (.tmp 45) rfl rfl w.heap.size _ _ [x] rfl HOo.out (some ⟨wr.heap.size, 0, none⟩) 1 1 rfl (one_len _) hs1.out (fun h => by cases h) (HLe.out x) HBo.out HSz.out (Nat.le_refl _) ?_; intro v3 w3 ho3 hb3 hb3')
              go_roundw
              case rel =>
                have hs := Hs.out
                have ho4 : OB w3 w.heap.size v3 (P ++ lbs len (j + 1)) := by rw [lbs_succ, ← Hx.out, ← List.append_assoc]; exact ho3
                refine ⟨j + 1, by omega, ?_⟩
                first
                  | exact ⟨by omega, ho4, hb3⟩
                  | exact ⟨by omega, ho4⟩
                  | exact ⟨congrArg (Value.int .i64) (by omega), ho4, hb3⟩
              case measure => have hs := Hs.out; simp [intOf]; omega
            · have hv := lb_high len j (by omega)
              rw [← hx, show 56 - 8 * (j - 8) = 8 * s by omega] at hv
              have c1 : 8 * (s : Int) < 64 := by omega
              have c2 : ¬ 8 * (s : Int) = 64 := by omega
              have c3 : (8 * (s : Int)).toNat = 8 * s := by omega
              have c4 : min (8 * s) 64 = 8 * s := by omega
              have c5 : ¬ 8 * (s : Int) < 0 := by omega
              rw [IntKind.wrap_u8', ← hn8] at hv
              have hv : (n : Int) * (8 : Int) / (2 : Int) ^ (8 * s) % (256 : Int) = Bt x := hv
              clear hx hn61 hs hsi
              go_upto_region 16 with fail
              rw [show ((n : Int) * (8 : Int) / (2 : Int) ^ (8 * s) % (256 : Int)) = Bt x from hv]
              clear hv
              go_wp2_with (refine wpList_push (o := ⟨some 46, _, _, _, _, _⟩) rfl (.tmp 43) (.tmp 45) rfl rfl w.heap.size _ _ [x] rfl HOo.out (some ⟨wr.heap.size, 0, none⟩) 1 1 rfl (one_len _) hs1.out (fun h => by cases h) (HLe.out x) HBo.out HSz.out (Nat.le_refl _) ?_; intro v3 w3 ho3 hb3 hb3')
              go_roundw
              case rel =>
                have hs := Hs.out
                have ho4 : OB w3 w.heap.size v3 (P ++ lbs len (j + 1)) := by rw [lbs_succ, ← Hx.out, ← List.append_assoc]; exact ho3
                refine ⟨j + 1, by omega, ?_⟩
                first
                  | exact ⟨by omega, ho4, hb3⟩
                  | exact ⟨by omega, ho4⟩
                  | exact ⟨congrArg (Value.int .i64) (by omega), ho4, hb3⟩
              case measure => have hs := Hs.out; simp [intOf]; omega
        · obtain rfl : j = 16 := by omega
          have e : filled R = P ++ lbs len 16 := by rw [filled, HP.out, HLn.out, HN.out]
          rw [← e] at ho
          have HO3 := Lib.hid ho
          have HB3 := Lib.hid hb
          clear ho hb hn61 hn8 e
          go_wp2_with fail
          go_ret
          exact ⟨⟨_, rfl, HO3.out⟩, HB3.out⟩
end Go.Proofs.YtffngfjbaimbhaaDoor
