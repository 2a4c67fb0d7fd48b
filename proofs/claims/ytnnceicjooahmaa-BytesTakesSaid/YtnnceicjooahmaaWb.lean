/- The law BytesTakes returns true for every input that can be read. -/
import Derived.Test.YtnnceicjooahmaaWa
import Derived.Outline
namespace Go.Proofs.Ytnnceicjooahmaa
open Go.RowKit
set_option linter.unusedVariables false
set_option linter.unusedSimpArgs false
theorem takes_big (A A2 : Option Addr) (n cap n2 cap2 : Nat) (w : World) (h : 5000 < n ∨ 40 < n2) :
    Calls Try.prog 4 #[.slice A n cap, .slice A2 n2 cap2] w fun e w' => e = .returned (.bool true) ∧ Below w.heap.size w w' := by
  have KA := Lib.hid (awake_any w)
  by_cases h1 : 5000 < n
  · have h1' : (5000 : Int) < (n : Int) := by omega
    clear h
    go_enter Try.func4, Try.ntmps4
    go_wp2_with (go_at_call 8; (with_reducible refine KA.out.mono ?_); rintro e w1 ⟨rfl, hb⟩; dsimp only)
    go_ret
    exact ⟨rfl, hb⟩
  · have h1' : ¬ (5000 : Int) < (n : Int) := by omega
    have h2 : (40 : Int) < (n2 : Int) := by omega
    clear h
    go_enter Try.func4, Try.ntmps4
    go_wp2_with (go_at_call 8; (with_reducible refine KA.out.mono ?_); rintro e w1 ⟨rfl, hb⟩; dsimp only)
    go_ret
    exact ⟨rfl, hb⟩
theorem IsR.up {w : World} {B B' : Nat} {p : Option Nat} {s : Option (List (BitVec 8))} (h : IsR w B p s) (hB : B ≤ B') : IsR w B' p s := by
  cases s with
  | none => exact fun g e => ⟨Nat.lt_of_lt_of_le (h g e).1 hB, (h g e).2⟩
  | some L =>
    obtain ⟨g, A, cap, e, hg, hb, ho, r⟩ := h
    exact ⟨g, A, cap, e, Nat.lt_of_lt_of_le hg hB, hb, ho.up hB, r⟩
/-- What holds at the head of each round of the loop over the acts. -/
def HeadT (w : World) (B g q : Nat) (X : List (BitVec 8)) (A : Option Addr) (cap m : Nat) (i : Value) (wr : World) : Prop :=
  ∃ k : Nat, k ≤ m ∧ i = .int .i64 k ∧ ∃ a gone, IsR wr B (some g) (stQ X a gone) ∧ IsQ wr B q X a gone A cap ∧ Below w.heap.size w wr ∧ B ≤ wr.heap.size
theorem blk_ne {w : World} {b : Nat} {T T' : Nat} {vs : List Value} {cur : Array Value} (h : Blk w b T vs) (h' : w.heap[b]? = some (.cells cur T' (0, 0))) (hT : T' ≠ T) : False := by
  unfold Blk at h
  rw [h] at h'
  injection h' with h'
  injection h' with _ h'
  exact hT h'.symm
theorem IsR.blk47 {w : World} {B g : Nat} {s : Option (List (BitVec 8))} (h : IsR w B (some g) s) : ∃ vs, Blk w g 47 vs := by
  cases s with
  | none => exact ⟨_, (h g rfl).2⟩
  | some L => obtain ⟨g', A, cap, e, _, hb, _⟩ := h; cases e; exact ⟨_, hb⟩
theorem IsQ.otherR {w w' : World} {B B' g q a cap : Nat} {X : List (BitVec 8)} {gone : Bool} {A : Option Addr} {s : Option (List (BitVec 8))} (h : IsQ w B q X a gone A cap) (hg : w.grownBy w' (some g)) (hr : IsR w B' (some g) s) : IsQ w' B q X a gone A cap := by
  obtain ⟨vs, hb⟩ := hr.blk47
  have hk : ∀ b T (cur : Array Value), T ≠ 47 → w.heap[b]? = some (Obj.cells cur T (0, 0)) → w'.heap[b]? = w.heap[b]? := fun b T cur hT hh =>
    hg.block b (Array.getElem?_eq_some_iff.1 hh).1 (fun e => by have e := Option.some.inj e; subst e; exact blk_ne hb hh hT)
  exact ⟨h.blk.same (hk q 36 _ (by decide) h.blk), h.own.heap fun b cur _ hh => hk b 5 cur (by decide) hh, h.lt, h.le, h.cap_, h.nil_, h.at_⟩
theorem IsR.otherQ {w w' : World} {B B' g q a cap : Nat} {X : List (BitVec 8)} {gone : Bool} {A : Option Addr} {s : Option (List (BitVec 8))} (h : IsR w B (some g) s) (hg : w.grownBy w' (some q)) (hq : IsQ w B' q X a gone A cap) : IsR w' B (some g) s := by
  have hk : ∀ b T (cur : Array Value), T ≠ 36 → w.heap[b]? = some (Obj.cells cur T (0, 0)) → w'.heap[b]? = w.heap[b]? := fun b T cur hT hh =>
    hg.block b (Array.getElem?_eq_some_iff.1 hh).1 (fun e => by have e := Option.some.inj e; subst e; exact blk_ne hq.blk hh hT)
  cases s with
  | none => exact fun g' e => ⟨(h g' e).1, (h g' e).2.same (hk g' 47 _ (by decide) (h g' e).2)⟩
  | some L =>
    obtain ⟨g', A', cap', e, hgB, hb', ho, r⟩ := h
    exact ⟨g', A', cap', e, hgB, hb'.same (hk g' 47 _ (by decide) hb'), ho.heap fun b cur _ hh => hk b 5 cur (by decide) hh, r⟩
/-- The slice reads as the string s. -/
def CS (A : Option Addr) (n c : Nat) (s : ByteArray) (w : World) : Prop := (convert 22 9 (.slice A n c)).run Try.prog w = .ok (.string s) w
theorem below_drewN {B : Nat} {w w' : World} (h : Below B w w') (k : Nat) : Below B w (w'.drewN k) := ⟨h.os, h.tape, h.output, h.size, h.block⟩
theorem IsQ.drew {w : World} {B q a cap : Nat} {X : List (BitVec 8)} {gone : Bool} {A : Option Addr} (h : IsQ w B q X a gone A cap) : IsQ w.drew B q X a gone A cap := ⟨h.blk, h.own, h.lt, h.le, h.cap_, h.nil_, h.at_⟩
theorem stQ_le (L : List (BitVec 8)) (a : Nat) (gone : Bool) (X : List (BitVec 8)) (e : stQ L a gone = some X) : X.length ≤ L.length := by
  cases gone with
  | true => cases e
  | false => cases e; rw [List.length_drop]; omega
theorem takeL_le (s : Option (List (BitVec 8))) (n : Int) (m : Nat) (h : ∀ X, s = some X → X.length ≤ m) : (takeL s n).length ≤ m := by
  cases s with
  | none => simp [takeL]
  | some X =>
    have := h X rfl
    simp only [takeL]
    split
    · rw [List.length_take]; omega
    · simp
theorem ob_other {w w' : World} {B q : Nat} {v : Value} {L : List (BitVec 8)} (h : OB w B v L) (hg : w.grownBy w' (some q)) (hq : q < B) : OB w' B v L := by
  refine ⟨h.1, ?_⟩
  rcases h.2 with hn | ⟨g, cap, cur, rfl, hb, hgg, r⟩
  · exact .inl hn
  · exact .inr ⟨g, cap, cur, rfl, hb, by rw [hg.block g (Array.getElem?_eq_some_iff.1 hgg).1 (fun e => by have := Option.some.inj e; omega)]; exact hgg, r⟩
set_option maxRecDepth 100000 in
set_option maxHeartbeats 4000000 in
theorem takes_walk (A A2 : Option Addr) (cap cap2 : Nat) (L : List (BitVec 8)) (M : List (Int × Int)) (w : World) (hR : Rd w w.heap.size A L) (hc : A = none → cap = 0) (hM : Acts w w.heap.size A2 M) :
    Calls Try.prog 4 #[.slice A L.length cap, .slice A2 M.length cap2] w fun e w' => e = .returned (.bool true) ∧ Below w.heap.size w w' := by
  by_cases hbig : 5000 < L.length ∨ 40 < M.length
  · exact takes_big A A2 L.length cap M.length cap2 w hbig
  · obtain ⟨n, hn⟩ : ∃ n, n = L.length := ⟨_, rfl⟩
    obtain ⟨m, hm⟩ : ∃ m, m = M.length := ⟨_, rfl⟩
    have h1 : n ≤ 5000 := by omega
    have h2 : m ≤ 40 := by omega
    have HN := Lib.hid hn
    have HM := Lib.hid hm
    have HAc := Lib.hid hM
    have HR := Lib.hid hR
    have Hc := Lib.hid hc
    have HO := Lib.hid (show OB (w.alloc (Obj.cells #[] 5)) w.heap.size (.slice (some ⟨w.heap.size, 0, none⟩) 0 0) [] from owns_empty w w.heap.size (Nat.le_refl _))
    have hb0 : Below w.heap.size w (w.alloc (Obj.cells #[] 5)) := (Below.refl _ _).alloc (Nat.le_refl _) _
    have HS := Lib.hid (src_of_rd (hR.keep hb0))
    have HL : Hid (([] : List (BitVec 8)).length + L.length ≤ 140737488355328) := by show ([] : List (BitVec 8)).length + L.length ≤ _; simp; omega
    have HB := Lib.hid (show w.heap.size ≤ (w.alloc (Obj.cells #[] 5)).heap.size by simp)
    have HB0 := Lib.hid hb0
    rw [← hn, ← hm]
    clear hbig hn hm hM hR hc hb0
    go_enter Try.func4, Try.ntmps4
    go_upto_region 4 with (refine wpList_push (o := ⟨some 27, _, _, _, _, _⟩) rfl (.tmp 25) (.tmp 26) rfl rfl w.heap.size _ [] L rfl HO.out A n cap rfl HN.out HS.out Hc.out HL.out HB0.out HB.out (Nat.le_refl _) ?_; intro v1 w1 ho1 hb1 hb1')
    rw [List.nil_append] at ho1
    obtain ⟨A1, c1, rfl, hr1, _, _, hz1⟩ := ho1.rd
    have KO := Lib.hid (open_lo A1 L L.length c1 _ w1 rfl hr1 (Nat.le_refl _) hz1 (by have := HN.out; omega))
    have HO1 := Lib.hid ho1
    have HB1 := Lib.hid hb1
    clear hr1 hz1 ho1 hb1 hb1' HO HS HB HB0
    go_upto_region 5 with (go_at_call 11; (with_reducible refine KO.out.mono ?_); rintro e w2 ⟨g, rfl, hi, hg1, hg2, hb2⟩; dsimp only)
    have HI := Lib.hid hi
    have Hg1 := Lib.hid hg1
    have Hg2 := Lib.hid hg2
    have HB2 := Lib.hid hb2
    have HB02 : Hid (Below w.heap.size w w2) := HB1.out.trans (hb2.mono HB1.out.size)
    have HO2 := Lib.hid (show OB (w2.alloc (Obj.cells #[] 5)) w2.heap.size (.slice (some ⟨w2.heap.size, 0, none⟩) 0 0) [] from owns_empty w2 w2.heap.size (Nat.le_refl _))
    have hb3 : Below w2.heap.size w2 (w2.alloc (Obj.cells #[] 5)) := (Below.refl _ _).alloc (Nat.le_refl _) _
    have HS2 := Lib.hid (src_of_rd ((HR.out.keep HB02.out).keep (hb3.mono HB02.out.size)))
    have HBs2 := Lib.hid hb3.size
    have HB3 := Lib.hid hb3
    clear hi hg1 hg2 hb2 hb3 KO
    go_upto_region 6 with (refine wpList_push (o := ⟨some 32, _, _, _, _, _⟩) rfl (.tmp 30) (.tmp 31) rfl rfl w2.heap.size _ [] L rfl HO2.out A n cap rfl HN.out HS2.out Hc.out HL.out HB3.out HBs2.out (Nat.le_refl _) ?_; intro v3 w3 ho3 hb3 hb3'; rw [List.nil_append] at ho3; obtain ⟨A3, c3, rfl, hO5, hl3, hm3, hz3⟩ := ho3.own5lo; have HO5 := Lib.hid hO5; have Hz3 := Lib.hid hz3; have Hb3 := Lib.hid hb3; clear ho3 hO5 hz3 hb3 hb3')
    rw [← HN.out]
    have hnewq := Blk.new w3 36 #[.slice A3 n c3, .int .i64 0, .bool false]
    have hs4 : (w3.alloc (.cells #[.slice A3 n c3, .int .i64 0, .bool false] 36)).heap.size = w3.heap.size + 1 := by simp
    generalize hw4 : w3.alloc (.cells #[.slice A3 n c3, .int .i64 0, .bool false] 36) = w4 at hnewq hs4
    have hb4 : Below w3.heap.size w3 w4 := by rw [← hw4]; exact (Below.refl _ _).alloc (Nat.le_refl _) _
    have hb24 : Below w2.heap.size w2 w4 := Hb3.out.trans (hb4.mono Hb3.out.size)
    have HKR : Hid (∀ w'', (∀ b, w1.heap.size ≤ b → b < w4.heap.size → w''.heap[b]? = w4.heap[b]?) → IsR w'' w4.heap.size (some g) (some L)) := fun w'' hk =>
      (HI.out w'' fun b hlo hlt => (hk b hlo (Nat.lt_of_lt_of_le hlt hb24.size)).trans (hb24.block b hlt)).up hb24.size
    have HKQ : Hid (∀ w'', (∀ b, w1.heap.size ≤ b → b < w4.heap.size → w''.heap[b]? = w4.heap[b]?) → IsQ w'' w4.heap.size w3.heap.size L 0 false A3 c3) := fun w'' hk =>
      { blk := by rw [← HN.out]; exact hnewq.same (hk _ (Nat.le_trans HB2.out.size Hb3.out.size) (by omega))
        own := (HO5.out w'' fun b hlo hlt => (hk b (Nat.le_trans HB2.out.size hlo) (by omega)).trans (hb4.block b hlt)).up (by omega)
        lt := by omega
        le := hl3
        cap_ := hm3
        nil_ := Hz3.out
        at_ := Nat.zero_le _ }
    have HB4 : Hid (Below w.heap.size w w4) := HB02.out.trans (hb24.mono HB02.out.size)
    have HO4 := Lib.hid ((HO1.out.below (B' := 0) HB2.out).below (B' := 0) hb24)
    have Hgq : Hid (g < w3.heap.size) := show g < w3.heap.size by have := Hg2.out; have := Hb3.out.size; omega
    have Hlo : Hid (w.heap.size ≤ g) := Nat.le_trans HB1.out.size Hg1.out
    have Hqlo : Hid (w.heap.size ≤ w3.heap.size) := Nat.le_trans Hlo.out (Nat.le_of_lt Hgq.out)
    have Hw1 : Hid (∀ b o c, A1 = some ⟨b, o, c⟩ → 0 < n → b < w1.heap.size) := fun b o c e hp => by
      obtain ⟨g', hg'⟩ := HO1.out.form (by rw [← HN.out]; exact hp)
      rw [hg'] at e
      cases e
      exact (World.ownsRow.lt (show w1.ownsRow _ 5 1 _ L.length (vbs L) from HO1.out) b (by rw [hg']; rfl)).2
    have Hs4 : Hid (w3.heap.size < w4.heap.size) := show w3.heap.size < w4.heap.size by omega
    generalize hqq : w3.heap.size = q at HKQ Hgq Hqlo Hs4 ⊢
    clear hnewq hs4 hw4 hb4 hb24 HI HO5 HO1 HO2 hl3 hm3 Hz3 Hb3 HB3 HBs2 HS2 hqq Hg2 Hg1 HB02 HL
    go_wp2_with fail
    go_loopw [8] (fun i wr => ∃ j : Nat, j ≤ n ∧ i = .int .i64 j ∧ (∃ Y, Y.length = n ∧ OB wr w.heap.size (.slice A1 n c1) Y) ∧ Below w.heap.size w wr ∧ (∀ b, w1.heap.size ≤ b → wr.heap[b]? = w4.heap[b]?) ∧ wr.heap.size = w4.heap.size) (fun i _ => n - (intOf i).toNat)
    case atStart => exact ⟨0, Nat.zero_le _, rfl, ⟨L, HN.out.symm, by rw [HN.out]; exact HO4.out⟩, HB4.out, fun _ _ => rfl, rfl⟩
    case round =>
      obtain ⟨j, hj, rfl, ⟨Y, hY, hO⟩, hB, hK, hSz⟩ := hrel
      have HOr := Lib.hid hO
      have HBr := Lib.hid hB
      have HYl := Lib.hid hY
      have HKr := Lib.hid hK
      have HSr := Lib.hid hSz
      by_cases hlt : j < n
      · obtain ⟨b1, rfl⟩ := hO.form (by omega)
        obtain ⟨c0, f0, hBg, _⟩ := hO.cells (k := j) (by omega)
        have hb1lt := Hw1.out b1 0 none rfl (by omega)
        have hx := xor255 (Y.getD j 0)
        obtain ⟨y, hy⟩ : ∃ y, y = Y.getD j 0 := ⟨_, rfl⟩
        rw [← hy] at c0 hx
        have j0 : (0 : Int) ≤ (j : Int) := by omega
        have HBg := Lib.hid hBg
        have Hbl := Lib.hid hb1lt
        clear hO hB hY hy hBg hb1lt hK hSz
        go_wp2
        go_roundw
        case rel => exact ⟨j + 1, by omega, by go_num, ⟨Y.set j (y ^^^ 255), by rw [List.length_set]; exact HYl.out, HOr.out.set (by have := HYl.out; omega) _⟩, HBr.out.setCell HBg.out _, fun b hb => (Below.heap_setCell _ _ _ _ (by have := Hbl.out; show b ≠ b1; omega)).trans (HKr.out b hb), by rw [← HSr.out]; simp [World.setCell]⟩
        case measure => simp [intOf]; omega
      · obtain rfl : j = n := by omega
        have HIr : Hid (IsR wr w4.heap.size (some g) (some L)) := HKR.out wr fun b hb _ => HKr.out b hb
        have HQr : Hid (IsQ wr w4.heap.size q L 0 false A3 c3) := HKQ.out wr fun b hb _ => HKr.out b hb
        clear hO hB hY hK hSz HKR HKQ HO4 HB4 HOr HYl HKr
        obtain ⟨W, hW⟩ : ∃ W, W = wr := ⟨_, rfl⟩
        rw [← hW] at HIr HQr HBr HSr ⊢
        obtain ⟨B, hBB⟩ : ∃ B, B = w4.heap.size := ⟨_, rfl⟩
        rw [← hBB] at HIr HQr HSr Hs4
        clear hW hBB
        go_wp2_with fail
        have h2i : (m : Int) ≤ 40 := by omega
        go_loopw [9] (fun i wr => HeadT w B g q L A3 c3 m i wr) (fun i _ => m - (intOf i).toNat)
        case atStart => exact ⟨0, Nat.zero_le _, rfl, 0, false, HIr.out, HQr.out, HBr.out, by rw [HSr.out]; exact Nat.le_refl _⟩
        case round =>
          obtain ⟨k, hk, rfl, a, gone, hI, hQ, hB, hS⟩ := hrel
          obtain ⟨wo, rfl⟩ : ∃ wo : World, wo = wr := ⟨_, rfl⟩
          have HI := Lib.hid hI
          have HQ := Lib.hid hQ
          have HBw := Lib.hid hB
          have HSw := Lib.hid hS
          clear HIr HQr HBr HSr
          by_cases hlt : k < m
          · obtain ⟨b, o, rfl, hbl, hcell⟩ := HAc.out (by have := HM.out; omega)
            obtain ⟨c0, c1⟩ := hcell k (by have := HM.out; omega)
            rw [← hB.cell (p := ⟨b, o + k * 2, none⟩) hbl] at c0
            rw [← hB.cell (p := ⟨b, o + k * 2 + 1, none⟩) hbl] at c1
            have k0 : (0 : Int) ≤ (k : Int) := by omega
            obtain ⟨N, hN⟩ : ∃ N, N = (M.getD k (0, 0)).2 := ⟨_, rfl⟩
            obtain ⟨D, hD⟩ : ∃ D, D = (M.getD k (0, 0)).1 := ⟨_, rfl⟩
            rw [← hN] at c1
            rw [← hD] at c0
            obtain ⟨kk, hkk, hbits⟩ := low2 D
            clear hI hQ hB hS hN hD hcell hbl
            match kk, hkk with
            | 0, _ =>
              have K12 : Hid (Calls Try.prog 12 #[ptr (some g), .int .i64 N] wo (NumPost (numV (stQ L a gone) N) (numS (stQ L a gone) N) B (some g) wo)) := num_any (some g) _ N B wo HI.out HSw.out
              go_upto_region 34 with (first
                | (go_at_call 12; (with_reducible refine K12.out.mono ?_); rintro e w5 ⟨rfl, hi, hg⟩; have HI5 := Lib.hid hi; have HG5 := Lib.hid hg; have HQ5 := Lib.hid (HQ.out.otherR hg HI.out); have K13 := Lib.hid (rnum_any q B a c3 gone A3 L N w5 HQ5.out (Nat.le_trans HSw.out hg.size) (by have := HN.out; omega)); clear hi hg; dsimp only)
                | (go_at_call 13; (with_reducible refine K13.out.mono ?_); rintro e w6 ⟨a', gone', rfl, hq, hs, hg⟩; have HQ6 := Lib.hid hq; have HG6 := Lib.hid hg; have HS6 := Lib.hid hs; clear hq hs hg; dsimp only))
              have HI6 : Hid (IsR w6 B (some g) (stQ L a' gone')) := show IsR w6 B (some g) (stQ L a' gone') by rw [HS6.out]; exact HI5.out.otherQ HG6.out HQ5.out
              have HB5 : Hid (Below w.heap.size w w5) := HBw.out.grown HG5.out HBw.out.size (fun k e => by have := Option.some.inj e; have := Hlo.out; omega)
              have HB6 : Hid (Below w.heap.size w w6) := HB5.out.grown HG6.out HB5.out.size (fun k e => by have := Option.some.inj e; have := Hqlo.out; omega)
              have HZ6 : Hid (B ≤ w6.heap.size) := Nat.le_trans HSw.out (Nat.le_trans HG5.out.size HG6.out.size)
              clear K12 K13
              have c2 := HQ6.out.blk.cell (j := 2) (v := .bool gone') rfl
              have HT22 := Lib.hid (fun n => torn_q HI6.out n)
              have HT20 := Lib.hid (fun n => left_q HI6.out n)
              have HT23 := Lib.hid (fun n => end_q HI6.out n)
              have HT21 := Lib.hid (fun n => rleft_q HQ6.out n)
              have HT24 := Lib.hid (fun n => rend_q HQ6.out n)
              rw [stQ_none] at HT22
              generalize leftS (stQ L a' gone') = lf at HT20 HT21
              generalize endS (stQ L a' gone') = en at HT23 HT24
              go_upto_if 0 with (go_quiet ((first | exact HT20.out _ | exact HT21.out _ | exact HT22.out _ | exact HT23.out _ | exact HT24.out _)))
              go_roundw
              case rel => exact ⟨k + 1, by omega, by go_num, a', gone', HI6.out.drewN _, HQ6.out.drewN _, below_drewN HB6.out _, HZ6.out⟩
              case measure => simp [intOf]; omega
            | 1, _ =>
              have KR : Hid (Calls Try.prog 14 #[ptr (some g), .int .i64 N] wo (NewPost (takeL (stQ L a gone) N) (cutS (stQ L a gone) N) B (some g) wo)) := take_any (some g) _ N B wo HI.out HSw.out (fun X e => by have := stQ_le L a gone X e; have := HN.out; omega)
              go_upto_region 20 with (go_at_call 14; (with_reducible refine KR.out.mono ?_); rintro e w5 ⟨v5, rfl, ho, hi, hg⟩; obtain ⟨A5, c5, rfl, hr5, _, _, _⟩ := ho.rd; have HO5 := Lib.hid ho; have HI5 := Lib.hid hi; have HG5 := Lib.hid hg; have HQ5 := Lib.hid (HQ.out.otherR hg HI.out); have HR5 := Lib.hid hr5; clear ho hi hg hr5; dsimp only)
              obtain ⟨T, hT⟩ : ∃ T, T = takeL (stQ L a gone) N := ⟨_, rfl⟩
              have T_le_1 : Hid (T.length ≤ 100000) := show T.length ≤ 100000 by rw [hT]; have := takeL_le (stQ L a gone) N L.length (fun X e => stQ_le L a gone X e); have := HN.out; omega
              rw [← hT] at HO5 HR5 ⊢
              obtain ⟨mx, hmx⟩ : ∃ mx, mx = T.length := ⟨_, rfl⟩
              have HMx := Lib.hid hmx
              have KQ := Lib.hid (rtake_any q B a c3 gone A3 L N w5.drew HQ5.out.drew (Nat.le_trans HSw.out HG5.out.size) (by have := HN.out; omega))
              rw [← hT] at KQ
              obtain ⟨sx, hsx⟩ : ∃ sx, sx = strB T := ⟨_, rfl⟩
              have HC0 : Hid (CS A5 mx c5 sx w5.drew) := show CS A5 mx c5 sx w5.drew by unfold CS; rw [hsx, hmx]; exact conv_n (B := w5.heap.size) (show Rd w5.drew _ A5 T from HR5.out) rfl
              have HSx := Lib.hid hsx
              have es : (sx.toList == sx.toList) = true := beq_self_eq_true _
              rw [← hmx]
              clear hT hmx hsx KR
              refine wp_region_but (z := 7) (CS A5 mx c5 sx) (by kernel_rfl) ?_
              have hS : (CS A5 mx c5 sx) w5.drew := HC0.out
              refine AnyBut.take (i := 0) (v := ?_) rfl (by kernel_rfl) (by kernel_rfl) (by kernel_rfl) (by kernel_rfl) (fun _ _ _ h => h) (Or.inl ⟨by rfl, ?_⟩) hS ?_
              rotate_left
              · (intro wq hq; go_simp; try with_reducible rfl)
              try simp only [Act.put, List.setIfInBounds_toArray, List.set_cons_zero, List.set_cons_succ, List.getElem_toArray, List.getElem_cons_zero, List.getElem_cons_succ]
              refine AnyBut.take (i := 1) (v := .string sx) rfl (by kernel_rfl) (by kernel_rfl) (by kernel_rfl) (by kernel_rfl) (fun _ _ _ h => h) (Or.inl ⟨by rfl, ?_⟩) hS ?_
              · intro wq hq
                go_simp
                rw [show (convert 22 9 (.slice A5 mx c5)).run Try.prog wq = .ok (.string sx) wq from hq]
                rfl
              try simp only [Act.put, List.setIfInBounds_toArray, List.set_cons_zero, List.set_cons_succ, List.getElem_toArray, List.getElem_cons_zero, List.getElem_cons_succ]
              refine AnyBut.take (i := 2) (v := ?_) rfl (by kernel_rfl) (by kernel_rfl) (by kernel_rfl) (by kernel_rfl) (fun _ _ _ h => h) (Or.inl ⟨by rfl, ?_⟩) hS ?_
              rotate_left
              · (intro wq hq; go_simp; try with_reducible rfl)
              try simp only [Act.put, List.setIfInBounds_toArray, List.set_cons_zero, List.set_cons_succ, List.getElem_toArray, List.getElem_cons_zero, List.getElem_cons_succ]
              refine AnyBut.take (i := 3) (v := ?_) rfl (by kernel_rfl) (by kernel_rfl) (by kernel_rfl) (by kernel_rfl) (fun _ _ _ h => h) (Or.inl ⟨by rfl, ?_⟩) hS ?_
              rotate_left
              · (intro wq hq; go_simp; try with_reducible rfl)
              try simp only [Act.put, List.setIfInBounds_toArray, List.set_cons_zero, List.set_cons_succ, List.getElem_toArray, List.getElem_cons_zero, List.getElem_cons_succ]
              refine AnyBut.gone (i := 4) (by kernel_rfl) rfl (by rfl) (fun K hK => ?_)
              go_simp
              (with_reducible refine KQ.out.mono ?_)
              rintro e w6 ⟨v6, a', gone', rfl, ho6, hq6, hs6, hg6'⟩
              have hg6 : w5.grownBy w6 (some q) := ⟨hg6'.os, hg6'.tape, hg6'.output, hg6'.size, hg6'.block⟩
              obtain ⟨A6, c6, rfl, hr6, _, _, _⟩ := ho6.rd
              dsimp only
              have e2 : (convert 22 9 (.slice A6 mx c6)).run Try.prog w6 = .ok (.string sx) w6 := by rw [HSx.out, HMx.out]; exact conv_n hr6 rfl
              have HQ6 := Lib.hid hq6
              have HG6 := Lib.hid hg6
              have HI6 : Hid (IsR w6 B (some g) (stQ L a' gone')) := show IsR w6 B (some g) (stQ L a' gone') by rw [hs6]; exact HI5.out.otherQ hg6 HQ5.out
              have HO6' := ob_other HO5.out hg6 (by have := HQ5.out.lt; have := HSw.out; omega)
              have hS : CS A5 mx c5 sx w6 := by unfold CS; obtain ⟨A9, c9, e9, hr9, _⟩ := HO6'.rd; cases e9; rw [HSx.out, HMx.out]; exact conv_n hr9 rfl
              have HO6 : Hid (OB w6 wo.heap.size (.slice A5 mx c5) T) := show OB w6 wo.heap.size (.slice A5 mx c5) T by rw [HMx.out]; exact HO6'
              clear ho6 hq6 hs6 hg6 hg6' hr6 HO6'
              rw [← HMx.out]
              refine hK _ _ (fun _ => hS) ?_
              clear hK K
              try simp only [Act.put, List.setIfInBounds_toArray, List.set_cons_zero, List.set_cons_succ, List.getElem_toArray, List.getElem_cons_zero, List.getElem_cons_succ]
              refine AnyBut.gone (i := 5) (by kernel_rfl) rfl (by rfl) (fun K hK => ?_)
              go_simp
              refine hK _ _ (fun _ => hS) ?_
              clear hK K
              try simp only [Act.put, List.setIfInBounds_toArray, List.set_cons_zero, List.set_cons_succ, List.getElem_toArray, List.getElem_cons_zero, List.getElem_cons_succ]
              refine AnyBut.gone (i := 6) (by kernel_rfl) rfl (by rfl) (fun K hK => ?_)
              go_simp
              refine hK _ _ (fun _ => hS) ?_
              clear hK K
              try simp only [Act.put, List.setIfInBounds_toArray, List.set_cons_zero, List.set_cons_succ, List.getElem_toArray, List.getElem_cons_zero, List.getElem_cons_succ]
              refine AnyBut.gone (i := 7) (by kernel_rfl) rfl (by rfl) (fun K hK => ?_)
              go_simp
              refine hK _ _ (fun h => absurd rfl h) ?_
              clear hK K
              refine AnyBut.done (by kernel_rfl) ?_ _
              dsimp only [Exit.then]
              have HB5 : Hid (Below w.heap.size w w5) := HBw.out.grown HG5.out HBw.out.size (fun k e => by have := Option.some.inj e; have := Hlo.out; omega)
              have HB6w : Hid (Below w.heap.size w w6) := HB5.out.grown HG6.out HB5.out.size (fun k e => by have := Option.some.inj e; have := Hqlo.out; omega)
              have HZ6 : Hid (wo.heap.size ≤ w6.heap.size) := Nat.le_trans HG5.out.size HG6.out.size
              have HMb : Hid (mx ≤ 100000) := show mx ≤ 100000 by rw [HMx.out]; exact T_le_1.out
              clear KQ HC0 hS e2 es HQ5 HI5 HR5 HO5
              go_wp2_with fail
              have hmb := HMb.out
              go_loopw [13] (fun i wr2 => ∃ j : Nat, j ≤ mx ∧ i = .int .i64 j ∧ (∃ Y, Y.length = mx ∧ OB wr2 wo.heap.size (.slice A5 mx c5) Y) ∧ Below wo.heap.size w6 wr2) (fun i _ => mx - (intOf i).toNat)
              case atStart => exact ⟨0, Nat.zero_le _, rfl, ⟨T, HMx.out.symm, HO6.out⟩, Below.refl _ _⟩
              case round =>
                obtain ⟨j2, hj2, rfl, ⟨Y, hY, hO⟩, hB⟩ := hrel
                have HOr2 := Lib.hid hO
                have HBr2 := Lib.hid hB
                have HYl2 := Lib.hid hY
                by_cases hlt2 : j2 < mx
                · obtain ⟨b2, rfl⟩ := hO.form (by omega)
                  obtain ⟨d0, f0, hBg, _⟩ := hO.cells (k := j2) (by omega)
                  have hx := xor255 (Y.getD j2 0)
                  obtain ⟨y, hy⟩ : ∃ y, y = Y.getD j2 0 := ⟨_, rfl⟩
                  rw [← hy] at d0 hx
                  have j0 : (0 : Int) ≤ (j2 : Int) := by omega
                  have HBg2 := Lib.hid hBg
                  clear hO hB hY hy hBg c0 c1
                  go_wp2
                  go_roundw
                  case rel => exact ⟨j2 + 1, by omega, by go_num, ⟨Y.set j2 (y ^^^ 255), by rw [List.length_set]; exact HYl2.out, HOr2.out.set (by have := HYl2.out; omega) _⟩, HBr2.out.setCell HBg2.out _⟩
                  case measure => simp [intOf]; omega
                · obtain rfl : j2 = mx := by omega
                  have HI7 := Lib.hid (HI6.out.below HBr2.out HSw.out)
                  have HQ7 := Lib.hid (HQ6.out.below HBr2.out HSw.out)
                  have HB7 : Hid (Below w.heap.size w wr) := HB6w.out.trans (HBr2.out.mono HBw.out.size)
                  have HZ7 : Hid (B ≤ wr.heap.size) := Nat.le_trans HSw.out (Nat.le_trans HZ6.out HBr2.out.size)
                  clear hO hB hY HI6 HQ6 c0 c1
                  go_wp2_with fail
                  have c2 := HQ7.out.blk.cell (j := 2) (v := .bool gone') rfl
                  have HT22 := Lib.hid (fun n => torn_q HI7.out n)
                  have HT20 := Lib.hid (fun n => left_q HI7.out n)
                  have HT23 := Lib.hid (fun n => end_q HI7.out n)
                  have HT21 := Lib.hid (fun n => rleft_q HQ7.out n)
                  have HT24 := Lib.hid (fun n => rend_q HQ7.out n)
                  rw [stQ_none] at HT22
                  generalize leftS (stQ L a' gone') = lf at HT20 HT21
                  generalize endS (stQ L a' gone') = en at HT23 HT24
                  go_upto_if 0 with (go_quiet ((first | exact HT20.out _ | exact HT21.out _ | exact HT22.out _ | exact HT23.out _ | exact HT24.out _)))
                  go_roundw
                  case rel => exact ⟨k + 1, by omega, by go_num, a', gone', HI7.out.drewN _, HQ7.out.drewN _, below_drewN HB7.out _, HZ7.out⟩
                  case measure => simp [intOf]; omega
            | 2, _ =>
              have K16 : Hid (Calls Try.prog 16 #[ptr (some g)] wo (HashPost (hashL (stQ L a gone)) (cutS (stQ L a gone) 32) B (some g) wo)) := hash_any (some g) _ B wo HI.out HSw.out
              have heq := fun wx => eql_same (hashL (stQ L a gone)) (hashL_len _) wx
              go_upto_region 34 with (first
                | (go_at_call 16; (with_reducible refine K16.out.mono ?_); rintro e w5 ⟨rfl, hi, hg⟩; have HI5 := Lib.hid hi; have HG5 := Lib.hid hg; have HQ5 := Lib.hid (HQ.out.otherR hg HI.out); have K17 := Lib.hid (rhash_any q B a c3 gone A3 L w5 HQ5.out (Nat.le_trans HSw.out hg.size) (by have := HN.out; omega)); clear hi hg; dsimp only)
                | (go_at_call 17; (with_reducible refine K17.out.mono ?_); rintro e w6 ⟨a', gone', rfl, hq, hs, hg⟩; have HQ6 := Lib.hid hq; have HG6 := Lib.hid hg; have HS6 := Lib.hid hs; clear hq hs hg; dsimp only))
              have HI6 : Hid (IsR w6 B (some g) (stQ L a' gone')) := show IsR w6 B (some g) (stQ L a' gone') by rw [HS6.out]; exact HI5.out.otherQ HG6.out HQ5.out
              have HB5 : Hid (Below w.heap.size w w5) := HBw.out.grown HG5.out HBw.out.size (fun k e => by have := Option.some.inj e; have := Hlo.out; omega)
              have HB6 : Hid (Below w.heap.size w w6) := HB5.out.grown HG6.out HB5.out.size (fun k e => by have := Option.some.inj e; have := Hqlo.out; omega)
              have HZ6 : Hid (B ≤ w6.heap.size) := Nat.le_trans HSw.out (Nat.le_trans HG5.out.size HG6.out.size)
              clear K16 K17 heq
              have c2 := HQ6.out.blk.cell (j := 2) (v := .bool gone') rfl
              have HT22 := Lib.hid (fun n => torn_q HI6.out n)
              have HT20 := Lib.hid (fun n => left_q HI6.out n)
              have HT23 := Lib.hid (fun n => end_q HI6.out n)
              have HT21 := Lib.hid (fun n => rleft_q HQ6.out n)
              have HT24 := Lib.hid (fun n => rend_q HQ6.out n)
              rw [stQ_none] at HT22
              generalize leftS (stQ L a' gone') = lf at HT20 HT21
              generalize endS (stQ L a' gone') = en at HT23 HT24
              go_upto_if 0 with (go_quiet ((first | exact HT20.out _ | exact HT21.out _ | exact HT22.out _ | exact HT23.out _ | exact HT24.out _)))
              go_roundw
              case rel => exact ⟨k + 1, by omega, by go_num, a', gone', HI6.out.drewN _, HQ6.out.drewN _, below_drewN HB6.out _, HZ6.out⟩
              case measure => simp [intOf]; omega
            | 3, _ =>
              have KR : Hid (Calls Try.prog 18 #[ptr (some g), .int .i64 N] wo (NewPost (takeL (stQ L a gone) N) (stQ L a gone) B (some g) wo)) := peek_any (some g) _ N B wo HI.out HSw.out (fun X e => by have := stQ_le L a gone X e; have := HN.out; omega)
              go_upto_region 29 with (go_at_call 18; (with_reducible refine KR.out.mono ?_); rintro e w5 ⟨v5, rfl, ho, hi, hg⟩; obtain ⟨A5, c5, rfl, hr5, _, _, _⟩ := ho.rd; have HO5 := Lib.hid ho; have HI5 := Lib.hid hi; have HG5 := Lib.hid hg; have HQ5 := Lib.hid (HQ.out.otherR hg HI.out); have HR5 := Lib.hid hr5; clear ho hi hg hr5; dsimp only)
              obtain ⟨T, hT⟩ : ∃ T, T = takeL (stQ L a gone) N := ⟨_, rfl⟩
              have T_le_3 : Hid (T.length ≤ 100000) := show T.length ≤ 100000 by rw [hT]; have := takeL_le (stQ L a gone) N L.length (fun X e => stQ_le L a gone X e); have := HN.out; omega
              rw [← hT] at HO5 HR5 ⊢
              obtain ⟨mx, hmx⟩ : ∃ mx, mx = T.length := ⟨_, rfl⟩
              have HMx := Lib.hid hmx
              have KQ := Lib.hid (rpeek_any q B a c3 gone A3 L N w5.drew HQ5.out.drew (Nat.le_trans HSw.out HG5.out.size) (by have := HN.out; omega))
              rw [← hT] at KQ
              obtain ⟨sx, hsx⟩ : ∃ sx, sx = strB T := ⟨_, rfl⟩
              have HC0 : Hid (CS A5 mx c5 sx w5.drew) := show CS A5 mx c5 sx w5.drew by unfold CS; rw [hsx, hmx]; exact conv_n (B := w5.heap.size) (show Rd w5.drew _ A5 T from HR5.out) rfl
              have HSx := Lib.hid hsx
              have es : (sx.toList == sx.toList) = true := beq_self_eq_true _
              rw [← hmx]
              clear hT hmx hsx KR
              refine wp_region_but (z := 7) (CS A5 mx c5 sx) (by kernel_rfl) ?_
              have hS : (CS A5 mx c5 sx) w5.drew := HC0.out
              refine AnyBut.take (i := 0) (v := ?_) rfl (by kernel_rfl) (by kernel_rfl) (by kernel_rfl) (by kernel_rfl) (fun _ _ _ h => h) (Or.inl ⟨by rfl, ?_⟩) hS ?_
              rotate_left
              · (intro wq hq; go_simp; try with_reducible rfl)
              try simp only [Act.put, List.setIfInBounds_toArray, List.set_cons_zero, List.set_cons_succ, List.getElem_toArray, List.getElem_cons_zero, List.getElem_cons_succ]
              refine AnyBut.take (i := 1) (v := .string sx) rfl (by kernel_rfl) (by kernel_rfl) (by kernel_rfl) (by kernel_rfl) (fun _ _ _ h => h) (Or.inl ⟨by rfl, ?_⟩) hS ?_
              · intro wq hq
                go_simp
                rw [show (convert 22 9 (.slice A5 mx c5)).run Try.prog wq = .ok (.string sx) wq from hq]
                rfl
              try simp only [Act.put, List.setIfInBounds_toArray, List.set_cons_zero, List.set_cons_succ, List.getElem_toArray, List.getElem_cons_zero, List.getElem_cons_succ]
              refine AnyBut.take (i := 2) (v := ?_) rfl (by kernel_rfl) (by kernel_rfl) (by kernel_rfl) (by kernel_rfl) (fun _ _ _ h => h) (Or.inl ⟨by rfl, ?_⟩) hS ?_
              rotate_left
              · (intro wq hq; go_simp; try with_reducible rfl)
              try simp only [Act.put, List.setIfInBounds_toArray, List.set_cons_zero, List.set_cons_succ, List.getElem_toArray, List.getElem_cons_zero, List.getElem_cons_succ]
              refine AnyBut.take (i := 3) (v := ?_) rfl (by kernel_rfl) (by kernel_rfl) (by kernel_rfl) (by kernel_rfl) (fun _ _ _ h => h) (Or.inl ⟨by rfl, ?_⟩) hS ?_
              rotate_left
              · (intro wq hq; go_simp; try with_reducible rfl)
              try simp only [Act.put, List.setIfInBounds_toArray, List.set_cons_zero, List.set_cons_succ, List.getElem_toArray, List.getElem_cons_zero, List.getElem_cons_succ]
              refine AnyBut.gone (i := 4) (by kernel_rfl) rfl (by rfl) (fun K hK => ?_)
              go_simp
              (with_reducible refine KQ.out.mono ?_)
              rintro e w6 ⟨v6, rfl, ho6, hb6⟩
              obtain ⟨A6, c6, rfl, hr6, _, _, _⟩ := ho6.rd
              dsimp only
              have e2 : (convert 22 9 (.slice A6 mx c6)).run Try.prog w6 = .ok (.string sx) w6 := by rw [HSx.out, HMx.out]; exact conv_n hr6 rfl
              have HB6 : Hid (Below w5.heap.size w5 w6) := ⟨hb6.os, hb6.tape, hb6.output, hb6.size, hb6.block⟩
              have HQ6 := Lib.hid (HQ5.out.below HB6.out (Nat.le_trans HSw.out HG5.out.size))
              have HI6 : Hid (IsR w6 B (some g) (stQ L a gone)) := HI5.out.below HB6.out (Nat.le_trans HSw.out HG5.out.size)
              have HG6 : Hid (w5.grownBy w6 (some q)) := grown_below (grown_refl _ _) HB6.out
              have hS : CS A5 mx c5 sx w6 := by unfold CS; rw [HSx.out, HMx.out]; exact conv_n (HR5.out.keep HB6.out) rfl
              have HO6 : Hid (OB w6 wo.heap.size (.slice A5 mx c5) T) := show OB w6 wo.heap.size (.slice A5 mx c5) T by rw [HMx.out]; exact HO5.out.below (B' := 0) HB6.out
              clear ho6 hb6 hr6
              rw [← HMx.out]
              refine hK _ _ (fun _ => hS) ?_
              clear hK K
              try simp only [Act.put, List.setIfInBounds_toArray, List.set_cons_zero, List.set_cons_succ, List.getElem_toArray, List.getElem_cons_zero, List.getElem_cons_succ]
              refine AnyBut.gone (i := 5) (by kernel_rfl) rfl (by rfl) (fun K hK => ?_)
              go_simp
              refine hK _ _ (fun _ => hS) ?_
              clear hK K
              try simp only [Act.put, List.setIfInBounds_toArray, List.set_cons_zero, List.set_cons_succ, List.getElem_toArray, List.getElem_cons_zero, List.getElem_cons_succ]
              refine AnyBut.gone (i := 6) (by kernel_rfl) rfl (by rfl) (fun K hK => ?_)
              go_simp
              refine hK _ _ (fun _ => hS) ?_
              clear hK K
              try simp only [Act.put, List.setIfInBounds_toArray, List.set_cons_zero, List.set_cons_succ, List.getElem_toArray, List.getElem_cons_zero, List.getElem_cons_succ]
              refine AnyBut.gone (i := 7) (by kernel_rfl) rfl (by rfl) (fun K hK => ?_)
              go_simp
              refine hK _ _ (fun h => absurd rfl h) ?_
              clear hK K
              refine AnyBut.done (by kernel_rfl) ?_ _
              dsimp only [Exit.then]
              have HB5 : Hid (Below w.heap.size w w5) := HBw.out.grown HG5.out HBw.out.size (fun k e => by have := Option.some.inj e; have := Hlo.out; omega)
              have HB6w : Hid (Below w.heap.size w w6) := HB5.out.grown HG6.out HB5.out.size (fun k e => by have := Option.some.inj e; have := Hqlo.out; omega)
              have HZ6 : Hid (wo.heap.size ≤ w6.heap.size) := Nat.le_trans HG5.out.size HG6.out.size
              have HMb : Hid (mx ≤ 100000) := show mx ≤ 100000 by rw [HMx.out]; exact T_le_3.out
              clear KQ HC0 hS e2 es HQ5 HI5 HR5 HO5
              go_wp2_with fail
              have hmb := HMb.out
              go_loopw [15] (fun i wr2 => ∃ j : Nat, j ≤ mx ∧ i = .int .i64 j ∧ (∃ Y, Y.length = mx ∧ OB wr2 wo.heap.size (.slice A5 mx c5) Y) ∧ Below wo.heap.size w6 wr2) (fun i _ => mx - (intOf i).toNat)
              case atStart => exact ⟨0, Nat.zero_le _, rfl, ⟨T, HMx.out.symm, HO6.out⟩, Below.refl _ _⟩
              case round =>
                obtain ⟨j2, hj2, rfl, ⟨Y, hY, hO⟩, hB⟩ := hrel
                have HOr2 := Lib.hid hO
                have HBr2 := Lib.hid hB
                have HYl2 := Lib.hid hY
                by_cases hlt2 : j2 < mx
                · obtain ⟨b2, rfl⟩ := hO.form (by omega)
                  obtain ⟨d0, f0, hBg, _⟩ := hO.cells (k := j2) (by omega)
                  have hx := xor255 (Y.getD j2 0)
                  obtain ⟨y, hy⟩ : ∃ y, y = Y.getD j2 0 := ⟨_, rfl⟩
                  rw [← hy] at d0 hx
                  have j0 : (0 : Int) ≤ (j2 : Int) := by omega
                  have HBg2 := Lib.hid hBg
                  clear hO hB hY hy hBg c0 c1
                  go_wp2
                  go_roundw
                  case rel => exact ⟨j2 + 1, by omega, by go_num, ⟨Y.set j2 (y ^^^ 255), by rw [List.length_set]; exact HYl2.out, HOr2.out.set (by have := HYl2.out; omega) _⟩, HBr2.out.setCell HBg2.out _⟩
                  case measure => simp [intOf]; omega
                · obtain rfl : j2 = mx := by omega
                  have HI7 := Lib.hid (HI6.out.below HBr2.out HSw.out)
                  have HQ7 := Lib.hid (HQ6.out.below HBr2.out HSw.out)
                  have HB7 : Hid (Below w.heap.size w wr) := HB6w.out.trans (HBr2.out.mono HBw.out.size)
                  have HZ7 : Hid (B ≤ wr.heap.size) := Nat.le_trans HSw.out (Nat.le_trans HZ6.out HBr2.out.size)
                  clear hO hB hY HI6 HQ6 c0 c1
                  go_wp2_with fail
                  have c2 := HQ7.out.blk.cell (j := 2) (v := .bool gone) rfl
                  have HT22 := Lib.hid (fun n => torn_q HI7.out n)
                  have HT20 := Lib.hid (fun n => left_q HI7.out n)
                  have HT23 := Lib.hid (fun n => end_q HI7.out n)
                  have HT21 := Lib.hid (fun n => rleft_q HQ7.out n)
                  have HT24 := Lib.hid (fun n => rend_q HQ7.out n)
                  rw [stQ_none] at HT22
                  generalize leftS (stQ L a gone) = lf at HT20 HT21
                  generalize endS (stQ L a gone) = en at HT23 HT24
                  go_upto_if 0 with (go_quiet ((first | exact HT20.out _ | exact HT21.out _ | exact HT22.out _ | exact HT23.out _ | exact HT24.out _)))
                  go_roundw
                  case rel => exact ⟨k + 1, by omega, by go_num, a, gone, HI7.out.drewN _, HQ7.out.drewN _, below_drewN HB7.out _, HZ7.out⟩
                  case measure => simp [intOf]; omega
            | (_ + 4), h => omega
          · obtain rfl : k = m := by omega
            have KA := Lib.hid (awake_any wo)
            clear hI hQ hB hS
            go_wp2_with (go_at_call 8; (with_reducible refine KA.out.mono ?_); rintro e w9 ⟨rfl, hb9⟩; dsimp only)
            go_ret
            exact ⟨rfl, HBw.out.trans (hb9.mono HBw.out.size)⟩
end Go.Proofs.Ytnnceicjooahmaa
