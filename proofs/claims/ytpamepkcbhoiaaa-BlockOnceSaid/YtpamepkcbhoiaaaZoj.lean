/- The law BlockOnce returns true for all bytes that can be read. What the rows' proofs ask of the loaded program: closed facts. -/
import Derived.Test.YtpamepkcbhoiaaaZoa
import Derived.Test.YtpamepkcbhoiaaaZob
import Derived.Test.YtpamepkcbhoiaaaZoc
import Derived.Test.YtpamepkcbhoiaaaZod
import Derived.Test.YtpamepkcbhoiaaaZoe
import Derived.Test.YtpamepkcbhoiaaaZof
import Derived.Test.YtpamepkcbhoiaaaZog
import Derived.Test.YtpamepkcbhoiaaaZoh
import Derived.Test.YtpamepkcbhoiaaaZoi
import Derived.Outline
import Derived.Test.YtpamepkcbhoiaaaRows
import Derived.ProofKit
import Derived.ChangeOld
namespace Go.Proofs.Ytpamepkcbhoiaaa
open Go.RowKit
set_option linter.unusedVariables false
set_option linter.unusedSimpArgs false
set_option maxRecDepth 100000
theorem gave_n {X : List (BitVec 8)} {n : Nat} (hn : X.length = n) {w : World} {e : Ending} {w' : World} (h : GavePost X w e w') :
    ∃ A c, e = .returned (.tuple #[.slice A n c, .int .i64 0]) ∧ Rd w' w'.heap.size A X ∧ Below w.heap.size w w' := by
  subst hn
  obtain ⟨A, c, rfl, ho, hb⟩ := h
  obtain ⟨A', cap, e, hr, _⟩ := ho.rd
  cases e
  exact ⟨A, c, rfl, hr, hb⟩
set_option maxHeartbeats 8000000 in
theorem bonce_any (A : Option Addr) (cap : Nat) (R : List (BitVec 8)) (w : World) (hR : Rd w w.heap.size A R) (hc : A = none → cap = 0) :
    Calls Try.prog 6 #[.slice A R.length cap] w (AwPost w) := by
  have KW := Lib.hid (fun w => awake_any w)
  have KB := Lib.hid (bparse_any A R cap w hR hc)
  have HO := Lib.hid (fun h => bP_once (L := R) h)
  have HE := Lib.hid (bP_034 R)
  obtain ⟨n, hn⟩ : ∃ n, n = R.length := ⟨_, rfl⟩
  have HN := Lib.hid hn
  have HR := Lib.hid hR
  obtain ⟨rp, hrp⟩ : ∃ r, r = bP R := ⟨_, rfl⟩
  rw [← hrp] at KB HO HE
  rw [← hn] at KB ⊢
  have hz := bkzero
  clear hR hc hn hrp
  by_cases he : rp.1 = 0
  · obtain ⟨o1, o2, o3, o4, o5⟩ := HO.out he
    obtain ⟨x, hx⟩ : ∃ x, x = rp.2 := ⟨_, rfl⟩
    rw [← hx] at o1 o2 o3 o4 o5
    have KB1 : Hid (Calls Try.prog 7 #[.slice A n cap] w fun e w' => ∃ rb n2, e = .returned (.tuple #[.agg (bkL x.hd (.slice (some ⟨rb, 0, none⟩) n2 n2)).toArray, .int .i64 0]) ∧ Txs w' w'.heap.size (.slice (some ⟨rb, 0, none⟩) n2 n2) x.txs ∧ n2 = x.txs.length ∧ Below w.heap.size w w') := KB.out.mono fun e w' ⟨A, n, cap, h1, hb, hok, _⟩ => by
      obtain ⟨rb, vs, e1, e2, e3, htx, hbk⟩ := hok he
      rw [← hx] at h1 e2 htx
      rw [he] at h1
      subst e1 e3
      exact ⟨rb, _, h1, htx.txs hbk e2 (by have := (bE_zero o2).2.1; rw [← e2]; omega), e2.symm, hb⟩
    have HK := Lib.hid o3
    have KP : Hid (∀ (v : Value) (wq : World), Txs wq wq.heap.size v x.txs → Calls Try.prog 13 #[.agg (bkL x.hd v).toArray] wq fun e w' => ∃ A c, e = .returned (.tuple #[.slice A n c, .int .i64 0]) ∧ Rd w' w'.heap.size A R ∧ Below wq.heap.size wq w') := fun v wq h => (bkput_any x v wq h o3).mono fun e w' hp => by
      have := gave_n (n := n) (by rw [o1, HN.out]) (hp.1 o2)
      rw [o1] at this
      exact this
    have H4 := Lib.hid o4
    clear HO HE KB he o1 o2 o3 o4 o5 hx
    go_enter Try.func6, Try.ntmps6
    go_upto_region 2 with (first
      | (go_at_call 7; (with_reducible refine KB1.out.mono ?_); rintro e w3 ⟨rb, n2, rfl, htx, hn2, hb3⟩; have HT3 := Lib.hid htx; have HB3 := Lib.hid hb3; have Hn2 := Lib.hid hn2; have HNew : Hid (Blk (w3.alloc (.cells (bkL hd0 (.slice none 0 0)).toArray 30)) w3.heap.size 30 (bkL hd0 (.slice none 0 0))) := (by have := Blk.new w3 30 (bkL hd0 (.slice none 0 0)).toArray; rwa [List.toList_toArray] at this); clear htx hb3 hn2 KB1; dsimp only)
      | (with_reducible refine wpList_store_mid rfl 30 (.tmp 3) (.tmp 10) rfl w3.heap.size 0 (bkL x.hd (.slice (some ⟨rb, 0, none⟩) n2 n2)).toArray rfl rfl (there_bk HNew.out hd0_ok HK.out) (info30v HK.out) (all_oneCell_toArray bkL_one) ?_))
    have hbw : Below w3.heap.size w3 ((w3.alloc (.cells (bkL hd0 (.slice none 0 0)).toArray 30)).setCells w3.heap.size 0 (bkL x.hd (.slice (some ⟨rb, 0, none⟩) n2 n2))) := below_setCells (Nat.le_refl _) _ 0 _ ((Below.refl _ _).alloc (Nat.le_refl _) _)
    have HX4 := Lib.hid (HNew.out.setCells (bkL x.hd (.slice (some ⟨rb, 0, none⟩) n2 n2)) (by rw [bkL_len HK.out, bkL_len hd0_ok]))
    have HT4 := Lib.hid ((HT3.out.keep hbw (Nat.le_refl _)).up hbw.size)
    have HW4 : Hid (Below w.heap.size w ((w3.alloc (.cells (bkL hd0 (.slice none 0 0)).toArray 30)).setCells w3.heap.size 0 (bkL x.hd (.slice (some ⟨rb, 0, none⟩) n2 n2)))) := HB3.out.trans (hbw.mono HB3.out.size)
    obtain ⟨xb, hxb⟩ : ∃ b, b = w3.heap.size := ⟨_, rfl⟩
    rw [← hxb] at HX4 HT4 HW4 ⊢
    clear hbw HNew hxb hz HT3 HB3
    generalize ((w3.alloc (.cells (bkL hd0 (.slice none 0 0)).toArray 30)).setCells xb 0 (bkL x.hd (.slice (some ⟨rb, 0, none⟩) n2 n2))) = W4 at HX4 HT4 HW4 ⊢
    have HI := Lib.hid (info30 (v := .slice (some ⟨rb, 0, none⟩) n2 n2) HK.out)
    go_upto_region 5 with (first
      | (with_reducible refine wpList_load_mid rfl 30 (.tmp 3) rfl xb 0 rfl (bkL x.hd (.slice (some ⟨rb, 0, none⟩) n2 n2)) _ HX4.out.range Try.underlying30 rfl HI.out ?_)
      | (go_at_call 13; (with_reducible refine (KP.out _ _ HT4.out).mono ?_); rintro e w5 ⟨A5, c5, rfl, hr5, hb5⟩; have HB5 := Lib.hid hb5; have HR5 := Lib.hid hr5; clear hb5 hr5 KP; dsimp only))
    have HW5 : Hid (Below w.heap.size w w5) := HW4.out.trans (HB5.out.mono HW4.out.size)
    have d1 := conv_n (n := n) (c := c5) HR5.out HN.out
    have d2 := conv_n (n := n) (c := cap) (HR.out.keep HW5.out) HN.out
    have es : ((strB R).toList == (strB R).toList) = true := beq_self_eq_true _
    generalize strB R = s at d1 d2 es
    have x1 := (HX4.out.below HB5.out HX4.out.lt).cell (j := 68) (at68 HK.out)
    have i1 : (1 : Int) ≤ (n2 : Int) := by have := H4.out; have := Hn2.out; omega
    go_wp2_with (go_at_call 10; (with_reducible refine (KW.out _).mono ?_); rintro e w6 ⟨rfl, hb⟩; have HB6 := Lib.hid hb; clear hb; dsimp only)
    go_ret
    exact ⟨rfl, HW5.out.trans (HB6.out.mono HW5.out.size)⟩
  · have h34 : rp.1 = 3 ∨ rp.1 = 4 := by
      rcases HE.out with h | h
      · exact absurd h he
      · exact h
    obtain ⟨c, hcv⟩ : ∃ c, c = rp.1 := ⟨_, rfl⟩
    have K9 : Hid (Calls Try.prog 7 #[.slice A n cap] w fun e w' => e = .returned (.tuple #[.agg (bkL hd0 (.slice none 0 0)).toArray, .int .i64 c]) ∧ Below w.heap.size w w') := KB.out.mono fun e w' ⟨A, n, cap, h1, hb, _, hno⟩ => by
      obtain ⟨e1, e2, e3, e4⟩ := hno he
      rw [e1, e2, e3, e4, ← hcv] at h1
      exact ⟨h1, hb⟩
    rw [← hcv] at h34
    clear KB he HO HE hcv
    go_enter Try.func6, Try.ntmps6
    go_upto_region 2 with (first
      | (go_at_call 7; (with_reducible refine K9.out.mono ?_); rintro e w3 ⟨rfl, hb3⟩; have HB3 := Lib.hid hb3; have HNew : Hid (Blk (w3.alloc (.cells (bkL hd0 (.slice none 0 0)).toArray 30)) w3.heap.size 30 (bkL hd0 (.slice none 0 0))) := (by have := Blk.new w3 30 (bkL hd0 (.slice none 0 0)).toArray; rwa [List.toList_toArray] at this); clear hb3 K9; dsimp only)
      | (with_reducible refine wpList_store_mid rfl 30 (.tmp 3) (.tmp 10) rfl w3.heap.size 0 (bkL hd0 (.slice none 0 0)).toArray rfl rfl (there_bk HNew.out hd0_ok hd0_ok) (info30v hd0_ok) (all_oneCell_toArray bkL_one) ?_))
    have hbw : Below w3.heap.size w3 ((w3.alloc (.cells (bkL hd0 (.slice none 0 0)).toArray 30)).setCells w3.heap.size 0 (bkL hd0 (.slice none 0 0))) := below_setCells (Nat.le_refl _) _ 0 _ ((Below.refl _ _).alloc (Nat.le_refl _) _)
    have HX4 := Lib.hid (HNew.out.setCells (bkL hd0 (.slice none 0 0)) rfl)
    have HW4 : Hid (Below w.heap.size w ((w3.alloc (.cells (bkL hd0 (.slice none 0 0)).toArray 30)).setCells w3.heap.size 0 (bkL hd0 (.slice none 0 0)))) := HB3.out.trans (hbw.mono HB3.out.size)
    obtain ⟨xb, hxb⟩ : ∃ b, b = w3.heap.size := ⟨_, rfl⟩
    rw [← hxb] at HX4 HW4 ⊢
    clear hbw HNew hxb hz HB3
    generalize ((w3.alloc (.cells (bkL hd0 (.slice none 0 0)).toArray 30)).setCells xb 0 (bkL hd0 (.slice none 0 0))) = W4 at HX4 HW4 ⊢
    have x1 := HX4.out.cell (j := 68) (at68 hd0_ok)
    rcases h34 with rfl | rfl
    all_goals
      go_wp2_with (go_at_call 10; (with_reducible refine (KW.out _).mono ?_); rintro e w5 ⟨rfl, hb⟩; have HB5 := Lib.hid hb; clear hb; dsimp only)
      go_ret
      exact ⟨rfl, HW4.out.trans (HB5.out.mono HW4.out.size)⟩
open Go.RowKit
theorem own : ownKnob Try.prog.godebug = none := by kernel_rfl
theorem laidOut : laidOutB Try.prog = true := by kernel_rfl
end Go.Proofs.Ytpamepkcbhoiaaa
