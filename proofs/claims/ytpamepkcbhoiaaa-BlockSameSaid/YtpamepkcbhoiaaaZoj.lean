/- The law BlockOnce returns true for all bytes that can be read. What the law package's large returns of a block. The law BlockBack returns true for every block that can be read. What the rows' proofs ask of the loaded program: closed facts. Whatever transaction came in: it lies in memory as an input's and an output's cells say. Whatever transaction came in: its inputs and outputs lie in memory. Whatever block came in: its header, and its transactions, lie in memory. -/
import Derived.Test.YtpamepkcbhoiaaaZoa
import Derived.Test.YtpamepkcbhoiaaaZob
import Derived.Test.YtpamepkcbhoiaaaZoc
import Derived.Test.YtpamepkcbhoiaaaZod
import Derived.Test.YtpamepkcbhoiaaaZoe
import Derived.Test.YtpamepkcbhoiaaaZof
import Derived.Test.YtpamepkcbhoiaaaZog
import Derived.Test.YtpamepkcbhoiaaaZoh
import Derived.Test.YtpamepkcbhoiaaaZoi
import Derived.Outline
import Derived.Lib.MinMax
import Derived.Test.YtpamepkcbhoiaaaRows
import Derived.ProofKit
import Derived.ChangeOld
import Derived.Deep.Slices
import Derived.ChangeSlices
import Derived.OpenShut
namespace Go.Proofs.Ytpamepkcbhoiaaa
open Go.RowKit
set_option linter.unusedVariables false
set_option linter.unusedSimpArgs false
set_option maxRecDepth 100000
theorem gave_n {X : List (BitVec 8)} {n : Nat} (hn : X.length = n) {w : World} {e : Ending} {w' : World} (h : GavePost X w e w') :
    ∃ A c, e = .returned (.tuple #[.slice A n c, .int .i64 0]) ∧ Rd w' w'.heap.size A X ∧ Below w.heap.size w w' := by
  subst hn
  obtain ⟨A, c, rfl, ho, hb⟩ := h
  obtain ⟨A', cap, e, hr, _⟩ := ho.rd
  cases e
  exact ⟨A, c, rfl, hr, hb⟩
set_option maxHeartbeats 8000000 in
theorem bonce_any (A : Option Addr) (cap : Nat) (R : List (BitVec 8)) (w : World) (hR : Rd w w.heap.size A R) (hc : A = none → cap = 0) :
    Calls Try.prog 6 #[.slice A R.length cap] w (AwPost w) := by
  have KW := Lib.hid (fun w => awake_any w)
  have KB := Lib.hid (bparse_any A R cap w hR hc)
  have HO := Lib.hid (fun h => bP_once (L := R) h)
  have HE := Lib.hid (bP_034 R)
  obtain ⟨n, hn⟩ : ∃ n, n = R.length := ⟨_, rfl⟩
  have HN := Lib.hid hn
  have HR := Lib.hid hR
  obtain ⟨rp, hrp⟩ : ∃ r, r = bP R := ⟨_, rfl⟩
  rw [← hrp] at KB HO HE
  rw [← hn] at KB ⊢
  have hz := bkzero
  clear hR hc hn hrp
  by_cases he : rp.1 = 0
  · obtain ⟨o1, o2, o3, o4, o5⟩ := HO.out he
    obtain ⟨x, hx⟩ : ∃ x, x = rp.2 := ⟨_, rfl⟩
    rw [← hx] at o1 o2 o3 o4 o5
    have KB1 : Hid (Calls Try.prog 7 #[.slice A n cap] w fun e w' => ∃ rb n2, e = .returned (.tuple #[.agg (bkL x.hd (.slice (some ⟨rb, 0, none⟩) n2 n2)).toArray, .int .i64 0]) ∧ Txs w' w'.heap.size (.slice (some ⟨rb, 0, none⟩) n2 n2) x.txs ∧ n2 = x.txs.length ∧ Below w.heap.size w w') := KB.out.mono fun e w' ⟨A, n, cap, h1, hb, hok, _⟩ => by
      obtain ⟨rb, vs, e1, e2, e3, htx, hbk⟩ := hok he
      rw [← hx] at h1 e2 htx
      rw [he] at h1
      subst e1 e3
      exact ⟨rb, _, h1, htx.txs hbk e2 (by have := (bE_zero o2).2.1; rw [← e2]; omega), e2.symm, hb⟩
    have HK := Lib.hid o3
    have KP : Hid (∀ (v : Value) (wq : World), Txs wq wq.heap.size v x.txs → Calls Try.prog 13 #[.agg (bkL x.hd v).toArray] wq fun e w' => ∃ A c, e = .returned (.tuple #[.slice A n c, .int .i64 0]) ∧ Rd w' w'.heap.size A R ∧ Below wq.heap.size wq w') := fun v wq h => (bkput_any x v wq h o3).mono fun e w' hp => by
      have := gave_n (n := n) (by rw [o1, HN.out]) (hp.1 o2)
      rw [o1] at this
      exact this
    have H4 := Lib.hid o4
    clear HO HE KB he o1 o2 o3 o4 o5 hx
    go_enter Try.func6, Try.ntmps6
    go_upto_region 2 with (first
      | (go_at_call 7; (with_reducible refine KB1.out.mono ?_); rintro e w3 ⟨rb, n2, rfl, htx, hn2, hb3⟩; have HT3 := Lib.hid htx; have HB3 := Lib.hid hb3; have Hn2 := Lib.hid hn2; have HNew : Hid (Blk (w3.alloc (.cells (bkL hd0 (.slice none 0 0)).toArray 30)) w3.heap.size 30 (bkL hd0 (.slice none 0 0))) := (by have := Blk.new w3 30 (bkL hd0 (.slice none 0 0)).toArray; rwa [List.toList_toArray] at this); clear htx hb3 hn2 KB1; dsimp only)
      | (with_reducible refine wpList_store_mid rfl 30 (.tmp 3) (.tmp 10) rfl w3.heap.size 0 (bkL x.hd (.slice (some ⟨rb, 0, none⟩) n2 n2)).toArray rfl rfl (there_bk HNew.out hd0_ok HK.out) (info30v HK.out) (all_oneCell_toArray bkL_one) ?_))
    have hbw : Below w3.heap.size w3 ((w3.alloc (.cells (bkL hd0 (.slice none 0 0)).toArray 30)).setCells w3.heap.size 0 (bkL x.hd (.slice (some ⟨rb, 0, none⟩) n2 n2))) := below_setCells (Nat.le_refl _) _ 0 _ ((Below.refl _ _).alloc (Nat.le_refl _) _)
    have HX4 := Lib.hid (HNew.out.setCells (bkL x.hd (.slice (some ⟨rb, 0, none⟩) n2 n2)) (by rw [bkL_len HK.out, bkL_len hd0_ok]))
    have HT4 := Lib.hid ((HT3.out.keep hbw (Nat.le_refl _)).up hbw.size)
    have HW4 : Hid (Below w.heap.size w ((w3.alloc (.cells (bkL hd0 (.slice none 0 0)).toArray 30)).setCells w3.heap.size 0 (bkL x.hd (.slice (some ⟨rb, 0, none⟩) n2 n2)))) := HB3.out.trans (hbw.mono HB3.out.size)
    obtain ⟨xb, hxb⟩ : ∃ b, b = w3.heap.size := ⟨_, rfl⟩
    rw [← hxb] at HX4 HT4 HW4 ⊢
    clear hbw HNew hxb hz HT3 HB3
    generalize ((w3.alloc (.cells (bkL hd0 (.slice none 0 0)).toArray 30)).setCells xb 0 (bkL x.hd (.slice (some ⟨rb, 0, none⟩) n2 n2))) = W4 at HX4 HT4 HW4 ⊢
    have HI := Lib.hid (info30 (v := .slice (some ⟨rb, 0, none⟩) n2 n2) HK.out)
    go_upto_region 5 with (first
      | (with_reducible refine wpList_load_mid rfl 30 (.tmp 3) rfl xb 0 rfl (bkL x.hd (.slice (some ⟨rb, 0, none⟩) n2 n2)) _ HX4.out.range Try.underlying30 rfl HI.out ?_)
      | (go_at_call 13; (with_reducible refine (KP.out _ _ HT4.out).mono ?_); rintro e w5 ⟨A5, c5, rfl, hr5, hb5⟩; have HB5 := Lib.hid hb5; have HR5 := Lib.hid hr5; clear hb5 hr5 KP; dsimp only))
    have HW5 : Hid (Below w.heap.size w w5) := HW4.out.trans (HB5.out.mono HW4.out.size)
    have d1 := conv_n (n := n) (c := c5) HR5.out HN.out
    have d2 := conv_n (n := n) (c := cap) (HR.out.keep HW5.out) HN.out
    have es : ((strB R).toList == (strB R).toList) = true := beq_self_eq_true _
    generalize strB R = s at d1 d2 es
    have x1 := (HX4.out.below HB5.out HX4.out.lt).cell (j := 68) (at68 HK.out)
    have i1 : (1 : Int) ≤ (n2 : Int) := by have := H4.out; have := Hn2.out; omega
    go_wp2_with (go_at_call 10; (with_reducible refine (KW.out _).mono ?_); rintro e w6 ⟨rfl, hb⟩; have HB6 := Lib.hid hb; clear hb; dsimp only)
    go_ret
    exact ⟨rfl, HW5.out.trans (HB6.out.mono HW5.out.size)⟩
  · have h34 : rp.1 = 3 ∨ rp.1 = 4 := by
      rcases HE.out with h | h
      · exact absurd h he
      · exact h
    obtain ⟨c, hcv⟩ : ∃ c, c = rp.1 := ⟨_, rfl⟩
    have K9 : Hid (Calls Try.prog 7 #[.slice A n cap] w fun e w' => e = .returned (.tuple #[.agg (bkL hd0 (.slice none 0 0)).toArray, .int .i64 c]) ∧ Below w.heap.size w w') := KB.out.mono fun e w' ⟨A, n, cap, h1, hb, _, hno⟩ => by
      obtain ⟨e1, e2, e3, e4⟩ := hno he
      rw [e1, e2, e3, e4, ← hcv] at h1
      exact ⟨h1, hb⟩
    rw [← hcv] at h34
    clear KB he HO HE hcv
    go_enter Try.func6, Try.ntmps6
    go_upto_region 2 with (first
      | (go_at_call 7; (with_reducible refine K9.out.mono ?_); rintro e w3 ⟨rfl, hb3⟩; have HB3 := Lib.hid hb3; have HNew : Hid (Blk (w3.alloc (.cells (bkL hd0 (.slice none 0 0)).toArray 30)) w3.heap.size 30 (bkL hd0 (.slice none 0 0))) := (by have := Blk.new w3 30 (bkL hd0 (.slice none 0 0)).toArray; rwa [List.toList_toArray] at this); clear hb3 K9; dsimp only)
      | (with_reducible refine wpList_store_mid rfl 30 (.tmp 3) (.tmp 10) rfl w3.heap.size 0 (bkL hd0 (.slice none 0 0)).toArray rfl rfl (there_bk HNew.out hd0_ok hd0_ok) (info30v hd0_ok) (all_oneCell_toArray bkL_one) ?_))
    have hbw : Below w3.heap.size w3 ((w3.alloc (.cells (bkL hd0 (.slice none 0 0)).toArray 30)).setCells w3.heap.size 0 (bkL hd0 (.slice none 0 0))) := below_setCells (Nat.le_refl _) _ 0 _ ((Below.refl _ _).alloc (Nat.le_refl _) _)
    have HX4 := Lib.hid (HNew.out.setCells (bkL hd0 (.slice none 0 0)) rfl)
    have HW4 : Hid (Below w.heap.size w ((w3.alloc (.cells (bkL hd0 (.slice none 0 0)).toArray 30)).setCells w3.heap.size 0 (bkL hd0 (.slice none 0 0)))) := HB3.out.trans (hbw.mono HB3.out.size)
    obtain ⟨xb, hxb⟩ : ∃ b, b = w3.heap.size := ⟨_, rfl⟩
    rw [← hxb] at HX4 HW4 ⊢
    clear hbw HNew hxb hz HB3
    generalize ((w3.alloc (.cells (bkL hd0 (.slice none 0 0)).toArray 30)).setCells xb 0 (bkL hd0 (.slice none 0 0))) = W4 at HX4 HW4 ⊢
    have x1 := HX4.out.cell (j := 68) (at68 hd0_ok)
    rcases h34 with rfl | rfl
    all_goals
      go_wp2_with (go_at_call 10; (with_reducible refine (KW.out _).mono ?_); rintro e w5 ⟨rfl, hb⟩; have HB5 := Lib.hid hb; clear hb; dsimp only)
      go_ret
      exact ⟨rfl, HW4.out.trans (HB5.out.mono HW4.out.size)⟩
open Go.RowKit
set_option linter.unusedVariables false
set_option linter.unusedSimpArgs false
set_option maxRecDepth 100000
/-- The lengths and places that large looks at, of one transaction, at any world in which what lay at first still lies. -/
def LgT (w : World) (A : Option Addr) (b o i : Nat) : Prop :=
  A = some ⟨b, o, none⟩ ∧ ∃ (ver lock : Nat) (Ai Ao : Option Addr) (ni ci no co ib io ob oo : Nat),
    (∀ wq, Below w.heap.size w wq → wq.cell? ⟨b, o + i * 4, none⟩ = some (.int .u32 (ver : Int)) ∧ wq.cell? ⟨b, o + i * 4 + 1, none⟩ = some (.slice Ai ni ci) ∧ wq.cell? ⟨b, o + i * 4 + 2, none⟩ = some (.slice Ao no co) ∧ wq.cell? ⟨b, o + i * 4 + 3, none⟩ = some (.int .u32 (lock : Int))) ∧ ni ≤ 9223372036854775807 ∧ no ≤ 9223372036854775807 ∧
    (∀ k, k < ni → Ai = some ⟨ib, io, none⟩ ∧ ∃ As ls cs Aw lw cw, (∀ wq, Below w.heap.size w wq → wq.cell? ⟨ib, io + k * 36 + 33, none⟩ = some (.slice As ls cs) ∧ wq.cell? ⟨ib, io + k * 36 + 35, none⟩ = some (.slice Aw lw cw)) ∧ ls ≤ 9223372036854775807 ∧ lw ≤ 9223372036854775807 ∧
      ∀ m, m < lw → ∃ wb wo At lt ct, Aw = some ⟨wb, wo, none⟩ ∧ (∀ wq, Below w.heap.size w wq → wq.cell? ⟨wb, wo + m, none⟩ = some (.slice At lt ct)) ∧ lt ≤ 9223372036854775807) ∧
    (∀ k, k < no → Ao = some ⟨ob, oo, none⟩ ∧ ∃ As ls cs, (∀ wq, Below w.heap.size w wq → wq.cell? ⟨ob, oo + k * 2 + 1, none⟩ = some (.slice As ls cs)) ∧ ls ≤ 9223372036854775807)
theorem lgt_of {w : World} {ts : List TTx} {n c : Nat} {A : Option Addr} (h : Txs w w.heap.size (.slice A n c) ts) (hn : n = ts.length) : ∃ b o, ∀ i, i < n → LgT w A b o i := by
  obtain ⟨A', c', b, o, e, hA, hr⟩ := Row.open h
  cases e
  refine ⟨b, o, fun i hi => ?_⟩
  obtain ⟨hbl, s, u, hrg, hok⟩ := hr i (by omega)
  obtain ⟨h1, h2, _, _⟩ := hok
  obtain ⟨Ai, ci, ib, io, rfl, hAi, hri⟩ := Row.open h1
  obtain ⟨Ao, co, ob, oo, rfl, hAo, hro⟩ := Row.open h2
  have hc1 : (ts.getD i tx00).ins.length ≤ 9223372036854775807 := by obtain ⟨_, _, e, h3, h4, _⟩ := h1; cases e; omega
  have hc2 : (ts.getD i tx00).outs.length ≤ 9223372036854775807 := by obtain ⟨_, _, e, h3, h4, _⟩ := h2; cases e; omega
  refine ⟨hA (by omega), (ts.getD i tx00).ver, (ts.getD i tx00).lock, Ai, Ao, (ts.getD i tx00).ins.length, ci, (ts.getD i tx00).outs.length, co, ib, io, ob, oo, fun wq hq => ?_, hc1, hc2, fun k hk => ?_, fun k hk => ?_⟩
  · have hrj := range_keep hrg hq hbl
    exact ⟨by simpa using hrj 0 _ rfl, hrj 1 _ rfl, hrj 2 _ rfl, hrj 3 _ rfl⟩
  · obtain ⟨hlt, s, u, hc, ⟨hs, hu, h32, _, _⟩⟩ := hri k hk
    obtain ⟨_, e33, _, e35⟩ := inV_at (x := (ts.getD i tx00).ins.getD k In0) (s := s) (v := u) h32
    obtain ⟨As, cs, rfl, _, _, _, _⟩ := hs
    obtain ⟨Aw, cw, wb, wo, rfl, hAw, hww⟩ := Row.open hu
    have hm : ((ts.getD i tx00).ins.getD k In0).wt.length ≤ 9223372036854775807 := by obtain ⟨_, _, e, h3, h4, _⟩ := hu; cases e; omega
    refine ⟨hAi (by omega), As, _, cs, Aw, _, cw, fun wq hq => ⟨by rw [hq.cell (p := ⟨ib, io + k * 36 + 33, none⟩) hlt]; exact hc 33 _ e33, by rw [hq.cell (p := ⟨ib, io + k * 36 + 35, none⟩) hlt]; exact hc 35 _ e35⟩, by omega, hm, fun m hm => ?_⟩
    obtain ⟨hwl, t, hct, At, ct, rfl, _, _, _, _⟩ := hww m hm
    rw [Nat.mul_one] at hct
    exact ⟨wb, wo, At, _, ct, hAw (by omega), fun wq hq => by rw [hq.cell (p := ⟨wb, wo + m, none⟩) hwl]; exact hct, by omega⟩
  · obtain ⟨hlt, s, hc, hs, _, _⟩ := hro k hk
    obtain ⟨As, cs, rfl, _, _, _, _⟩ := hs
    exact ⟨hAo (by omega), As, _, cs, fun wq hq => by rw [hq.cell (p := ⟨ob, oo + k * 2 + 1, none⟩) hlt]; exact hc 1 _ rfl, by omega⟩
set_option maxHeartbeats 16000000 in
theorem blarge_any (x : TBk) (v : Value) (w : World) (h : Txs w w.heap.size v x.txs) (k : HdOk x.hd) : Calls Try.prog 11 #[.agg (bkL x.hd v).toArray] w (SomePost w) := by
  have hh := h
  obtain ⟨A, c, rfl, hcap, hmax, _⟩ := h
  obtain ⟨n, hn⟩ : ∃ n, n = x.txs.length := ⟨_, rfl⟩
  rw [← hn] at hh hcap ⊢
  obtain ⟨b, o, hL⟩ := lgt_of hh hn
  have hbx : Blk (w.alloc (.cells (bkL x.hd (.slice A n c)).toArray 30)) w.heap.size 30 (bkL x.hd (.slice A n c)) := by
    have := Blk.new w 30 (bkL x.hd (.slice A n c)).toArray
    rwa [List.toList_toArray] at this
  have HBx := Lib.hid hbx
  have HW : Hid (Below w.heap.size w (w.alloc (.cells (bkL x.hd (.slice A n c)).toArray 30))) := (Below.refl _ _).alloc (Nat.le_refl _) _
  have HL := Lib.hid hL
  have Hat := Lib.hid (at68 (v := .slice A n c) k)
  have hnm : n ≤ 9223372036854775807 := by omega
  obtain ⟨V, hV⟩ : ∃ V, V = (bkL x.hd (.slice A n c)).toArray := ⟨_, rfl⟩
  rw [← hV] at HBx HW ⊢
  clear hh hn hbx hL k hcap hmax hV
  go_enter Try.func11, Try.ntmps11
  go_upto_region 2 with fail
  have HBl := Lib.hid HBx.out.lt
  generalize (w.alloc (.cells V 30)) = W0 at HBx HW HBl ⊢
  go_loopw [3] (fun iv wq => ∃ i : Nat, i ≤ n ∧ iv = .int .i64 (i : Int) ∧ Below W0.heap.size W0 wq) (fun iv _ => n - (intOf iv).toNat)
  case atStart => exact ⟨0, Nat.zero_le _, rfl, Below.refl _ _⟩
  case round =>
    obtain ⟨i, hi, rfl, hb⟩ := hrel
    have d0 := (HBx.out.below hb HBl.out).cell Hat.out
    have HB := Lib.hid hb
    have HWr : Hid (Below w.heap.size w wr) := HW.out.trans (hb.mono HW.out.size)
    clear hb
    by_cases hi1 : i < n
    · have hi2 : (i : Int) < (n : Int) := by omega
      by_cases hi5 : i < 50
      · have hi6 : (i : Int) < 50 := by omega
        obtain ⟨rfl, ver, lock, Ai, Ao, ni, ci, no, co, ib, io, ob, oo, hcells, hni, hno, hins, houts⟩ := HL.out i hi1
        obtain ⟨c0, c1, c2, c3⟩ := hcells wr HWr.out
        have hbw : Below wr.heap.size wr (wr.alloc (.cells #[.int .u32 (ver : Int), .slice Ai ni ci, .slice Ao no co, .int .u32 (lock : Int)] 60)) := (Below.refl _ _).alloc (Nat.le_refl _) _
        have HB1 : Hid (Below W0.heap.size W0 (wr.alloc (.cells #[.int .u32 (ver : Int), .slice Ai ni ci, .slice Ao no co, .int .u32 (lock : Int)] 60))) := HB.out.trans (hbw.mono HB.out.size)
        have HW1 : Hid (Below w.heap.size w (wr.alloc (.cells #[.int .u32 (ver : Int), .slice Ai ni ci, .slice Ao no co, .int .u32 (lock : Int)] 60))) := HWr.out.trans (hbw.mono HWr.out.size)
        have hbx := Blk.new wr 60 #[.int .u32 (ver : Int), .slice Ai ni ci, .slice Ao no co, .int .u32 (lock : Int)]
        have t1 := hbx.cell (j := 1) rfl
        have t2 := hbx.cell (j := 2) rfl
        have HIns := Lib.hid hins
        have HOuts := Lib.hid houts
        clear hins houts hbw hcells hbx
        go_upto_region 5 with fail
        clear c0 c1 c2 c3 d0
        obtain ⟨tb, htb⟩ : ∃ b, b = wr.heap.size := ⟨_, rfl⟩
        rw [← htb] at t1 t2 ⊢
        clear htb
        generalize (wr.alloc (.cells #[.int .u32 (ver : Int), .slice Ai ni ci, .slice Ao no co, .int .u32 (lock : Int)] 60)) = W1 at HB1 HW1 t1 t2 ⊢
        by_cases q1 : 20 < ni
        · have p1 : (20 : Int) < (ni : Int) := by omega
          go_wp2_with fail
          go_ret
          exact ⟨_, rfl, HW1.out⟩
        have p1 : ¬ (20 : Int) < (ni : Int) := by omega
        by_cases q2 : 20 < no
        · have p2 : (20 : Int) < (no : Int) := by omega
          go_wp2_with fail
          go_ret
          exact ⟨_, rfl, HW1.out⟩
        have p2 : ¬ (20 : Int) < (no : Int) := by omega
        go_upto_region 8 with fail
        go_loop [5] (fun kv => ∃ k : Nat, k ≤ ni ∧ kv = .int .i64 (k : Int)) (fun kv => ni - (intOf kv).toNat)
        case atStart => exact ⟨0, Nat.zero_le _, rfl⟩
        case round =>
          obtain ⟨k, hk, rfl⟩ := hrel
          by_cases hk1 : k < ni
          · have hk2 : (k : Int) < (ni : Int) := by omega
            have h0k : (0 : Int) ≤ (k : Int) := by omega
            obtain ⟨rfl, As, ls, cs, Aw, lw, cw, hcc, hls, hlw, hwt⟩ := HIns.out k hk1
            obtain ⟨cc, cd⟩ := hcc W1 HW1.out
            have HWt := Lib.hid hwt
            clear hcc hwt
            go_upto_region 12 with fail
            go_loop [7, 6] (fun jv nv => ∃ j : Nat, j ≤ lw ∧ jv = .int .i64 (j : Int) ∧ ∃ z : Int, nv = .int .i64 z) (fun jv _ => lw - (intOf jv).toNat)
            case atStart => exact ⟨0, Nat.zero_le _, rfl, _, rfl⟩
            case round =>
              obtain ⟨j, hj, rfl, z, rfl⟩ := hrel
              by_cases hj1 : j < lw ∧ j < 30
              · have hj2 : (j : Int) < (lw : Int) := by omega
                have hj3 : (j : Int) < 30 := by omega
                have h0j : (0 : Int) ≤ (j : Int) := by omega
                obtain ⟨wb, wo, At, lt, ct, rfl, ce, hlt⟩ := HWt.out j hj1.1
                have ce := ce W1 HW1.out
                go_wp2_with fail
                go_round
                case rel => exact ⟨j + 1, by omega, by go_num, _, rfl⟩
                case measure => simp [intOf]; omega
              · by_cases hz : 200 < z
                · by_cases hj4 : j < lw
                  · have hj2 : (j : Int) < (lw : Int) := by omega
                    have hj3 : ¬ (j : Int) < 30 := by omega
                    go_wp2_with fail
                    go_ret
                    exact ⟨_, rfl, HW1.out⟩
                  · have hj2 : ¬ (j : Int) < (lw : Int) := by omega
                    go_wp2_with fail
                    go_ret
                    exact ⟨_, rfl, HW1.out⟩
                · by_cases hw : 20 < lw
                  · have hw1 : (20 : Int) < (lw : Int) := by omega
                    by_cases hj4 : j < lw
                    · have hj2 : (j : Int) < (lw : Int) := by omega
                      have hj3 : ¬ (j : Int) < 30 := by omega
                      go_wp2_with fail
                      go_ret
                      exact ⟨_, rfl, HW1.out⟩
                    · have hj2 : ¬ (j : Int) < (lw : Int) := by omega
                      go_wp2_with fail
                      go_ret
                      exact ⟨_, rfl, HW1.out⟩
                  · have hw1 : ¬ (20 : Int) < (lw : Int) := by omega
                    have hj2 : ¬ (j : Int) < (lw : Int) := by omega
                    go_wp2_with fail
                    go_round
                    case rel => exact ⟨k + 1, by omega, by go_num⟩
                    case measure => simp [intOf]; omega
          · have hk2 : ¬ (k : Int) < (ni : Int) := by omega
            go_upto_region 18 with fail
            go_loop [8] (fun kv => ∃ k : Nat, k ≤ no ∧ kv = .int .i64 (k : Int)) (fun kv => no - (intOf kv).toNat)
            case atStart => exact ⟨0, Nat.zero_le _, rfl⟩
            case round =>
              obtain ⟨m, hm, rfl⟩ := hrel
              by_cases hm1 : m < no
              · have hm2 : (m : Int) < (no : Int) := by omega
                have h0m : (0 : Int) ≤ (m : Int) := by omega
                obtain ⟨rfl, As, ls, cs, hcc, hls⟩ := HOuts.out m hm1
                have cc := hcc W1 HW1.out
                clear hcc
                by_cases q3 : 200 < ls
                · have p3 : (200 : Int) < (ls : Int) := by omega
                  go_wp2_with fail
                  go_ret
                  exact ⟨_, rfl, HW1.out⟩
                · have p3 : ¬ (200 : Int) < (ls : Int) := by omega
                  go_wp2_with fail
                  go_round
                  case rel => exact ⟨m + 1, by omega, by go_num⟩
                  case measure => simp [intOf]; omega
              · have hm2 : ¬ (m : Int) < (no : Int) := by omega
                go_wp2_with fail
                go_roundw
                case rel => exact ⟨i + 1, by omega, by go_num, HB1.out⟩
                case measure => simp [intOf]; omega
      · have hi6 : ¬ (i : Int) < 50 := by omega
        go_wp2_with fail
        go_ret
        exact ⟨_, rfl, HWr.out⟩
    · have hi2 : ¬ (i : Int) < (n : Int) := by omega
      go_wp2_with fail
      go_ret
      exact ⟨_, rfl, HWr.out⟩
open Go.RowKit
set_option linter.unusedVariables false
set_option linter.unusedSimpArgs false
set_option maxRecDepth 100000
theorem wpList_load_on {P : Program} {ops : Array Oper} {rest : List Oper} {op : Oper} {a : Act} {w : World} {Q : Exit → Act → World → Prop} (hgd : Region.wanted op (yielded ops a.tmps) = true) (ty : TypeId) (x : Operand) (ho : op.op = .load ty x)
    (b o : Nat) (hx : a.eval x = .pointer (some ⟨b, o, none⟩)) (cs : List Value) (d : TypeDesc) (hc : w.rangeAt b o cs) (hu : P.underlying ty = some d) (hd : d.isRow = true) (hi : (P.info? ty).map (·.size) = some cs.length)
    (h : wpList P ops Q rest (a.put op.dst (.agg cs.toArray)) w) : wpList P ops Q (op :: rest) a w :=
  wpList_step fun K hK => by simp only [hgd, if_true]; exact wp_load_mid ty x ho b o hx cs d hc hu hd hi (hK _ _ h)
theorem Txs.txIn {w : World} {B : Nat} {v : Value} {ts : List TTx} (h : Txs w B v ts) : ∀ t ∈ ts, TxIn t := fun t ht => by
  obtain ⟨A, c, b, o, _, _, hr⟩ := Row.open h
  obtain ⟨k, hk, rfl⟩ := List.getElem_of_mem ht
  obtain ⟨_, i, u, _, hok⟩ := hr k hk
  have e : ts.getD k tx00 = ts[k] := by simp [List.getD, hk]
  rw [e] at hok
  exact hok.txIn
set_option maxHeartbeats 16000000 in
theorem bback_any (x : TBk) (v : Value) (w : World) (h : Txs w w.heap.size v x.txs) (k : HdOk x.hd) : Calls Try.prog 5 #[.agg (bkL x.hd v).toArray] w (AwPost w) := by
  have KW := Lib.hid (fun w => awake_any w)
  have hti := h.txIn
  have HH : Hid (∀ wq, Below w.heap.size w wq → Txs wq wq.heap.size v x.txs) := fun wq hq => (h.keep hq (Nat.le_refl _)).up hq.size
  obtain ⟨A, c, rfl, _⟩ := id h
  obtain ⟨n, hn⟩ : ∃ n, n = x.txs.length := ⟨_, rfl⟩
  rw [← hn] at HH ⊢
  have hbx : Blk (w.alloc (.cells (bkL x.hd (.slice A n c)).toArray 30)) w.heap.size 30 (bkL x.hd (.slice A n c)) := by
    have := Blk.new w 30 (bkL x.hd (.slice A n c)).toArray
    rwa [List.toList_toArray] at this
  have HBx := Lib.hid hbx
  have HW : Hid (Below w.heap.size w (w.alloc (.cells (bkL x.hd (.slice A n c)).toArray 30))) := (Below.refl _ _).alloc (Nat.le_refl _) _
  have KL : Hid (∀ wq, Below w.heap.size w wq → Calls Try.prog 11 #[.agg (bkL x.hd (.slice A n c)).toArray] wq (SomePost wq)) := fun wq hq => blarge_any x _ wq (HH.out wq hq) k
  have KP : Hid (∀ wq, Below w.heap.size w wq → Calls Try.prog 13 #[.agg (bkL x.hd (.slice A n c)).toArray] wq (PutBPost x wq)) := fun wq hq => bkput_any x _ wq (HH.out wq hq) k
  have HI := Lib.hid (info30 (v := .slice A n c) k)
  have HK := Lib.hid k
  have hz := bkzero
  have Hti := Lib.hid hti
  obtain ⟨V, hV⟩ : ∃ V, V = (bkL x.hd (.slice A n c)).toArray := ⟨_, rfl⟩
  have HV := Lib.hid hV
  rw [← hV] at HBx HW ⊢
  clear h hti hbx hn k hV
  go_enter Try.func5, Try.ntmps5
  go_upto_region 1 with fail
  have HBl := Lib.hid HBx.out.lt
  generalize (w.alloc (.cells V 30)) = W0 at HBx HW HBl ⊢
  go_upto_region 3 with (first
    | (refine wpList_load_on (op := ⟨some 7, _, _, _, _, _⟩) rfl 30 (.tmp 1) rfl w.heap.size 0 rfl (bkL x.hd (.slice A n c)) _ HBx.out.range Try.underlying30 rfl HI.out ?_)
    | (go_at_call 11; (with_reducible refine (KL.out _ HW.out).mono ?_); rintro e w1 ⟨β, rfl, hb1⟩; have HB1 := Lib.hid hb1; clear hb1; cases β <;> dsimp only)
    | (go_at_call 10; (with_reducible refine (KW.out _).mono ?_); rintro e w2 ⟨rfl, hb2⟩; have HB2 := Lib.hid hb2; clear hb2; dsimp only))
  rotate_left
  · go_ret
    exact ⟨rfl, HW.out.trans ((HB1.out.mono HW.out.size).trans (HB2.out.mono (Nat.le_trans HW.out.size HB1.out.size)))⟩
  have HBx1 := Lib.hid (HBx.out.below HB1.out HBl.out)
  have HW1 : Hid (Below w.heap.size w w1) := HW.out.trans (HB1.out.mono HW.out.size)
  by_cases hE : bE x = 0
  · have hb0 := bP_back hE HK.out Hti.out
    have h8 := (bE_zero hE).2.2.2
    have hn32 := (bE_zero hE).2.1
    obtain ⟨X, hX⟩ : ∃ X, X = blkB x := ⟨_, rfl⟩
    obtain ⟨m, hm⟩ : ∃ m, m = X.length := ⟨_, rfl⟩
    have KP1 : Hid (Calls Try.prog 13 #[.agg (bkL x.hd (.slice A n c)).toArray] w1 fun e w' => ∃ A c, e = .returned (.tuple #[.slice A m c, .int .i64 0]) ∧ Rd w' w'.heap.size A X ∧ (A = none → c = 0) ∧ Below w1.heap.size w1 w') := (KP.out _ HW1.out).mono fun e w' hp => by
      obtain ⟨A, c, rfl, ho, hb⟩ := hp.1 hE
      obtain ⟨A', cap, e', hr, _, _, hz⟩ := ho.rd
      cases e'
      exact ⟨A, c, by rw [hm, hX], by rw [hX]; exact hr, hz, hb⟩
    have KR : Hid (∀ (A : Option Addr) (cp : Nat) (wq : World), Rd wq wq.heap.size A X → (A = none → cp = 0) → Calls Try.prog 7 #[.slice A m cp] wq fun e w' => ∃ rb, e = .returned (.tuple #[.agg (bkL x.hd (.slice (some ⟨rb, 0, none⟩) n n)).toArray, .int .i64 0]) ∧ Txs w' w'.heap.size (.slice (some ⟨rb, 0, none⟩) n n) x.txs ∧ Below wq.heap.size wq w') := fun A cp wq hr hz => by
      have := bparse_any A X cp wq hr hz
      rw [← hm, hX, hb0] at this
      refine this.mono fun e w' ⟨A, n2, cap, he, hb, hok, _⟩ => ?_
      obtain ⟨rb, vs, e1, e2, e3, htx, hbk⟩ := hok rfl
      have e2 : x.txs.length = n2 := e2
      obtain ⟨_, _, e4, _⟩ := HH.out w (Below.refl _ _)
      injection e4 with _ e4
      have e5 : n2 = n := by rw [← e2, e4]
      subst e1 e3 e5
      exact ⟨rb, he, htx.txs hbk e2 (by omega), hb⟩
    have h8m : (m : Int) ≤ 8192 := by rw [hm, hX]; omega
    clear hb0 h8 hn32 hX hm KP KL hE
    go_upto_region 6 with (first
      | (refine wpList_load_on (op := ⟨some 11, _, _, _, _, _⟩) rfl 30 (.tmp 1) rfl w.heap.size 0 rfl (bkL x.hd (.slice A n c)) _ HBx1.out.range Try.underlying30 rfl HI.out ?_)
      | (go_at_call 13; (with_reducible refine KP1.out.mono ?_); rintro e w3 ⟨A3, c3, rfl, hr3, hz3, hb3⟩; have HB3 := Lib.hid hb3; have KR3 := Lib.hid (KR.out A3 c3 _ hr3 hz3); clear hb3 hr3 hz3 KP1; dsimp only))
    have HW3 : Hid (Below w.heap.size w w3) := HW1.out.trans (HB3.out.mono HW1.out.size)
    have HBx3 := Lib.hid (HBx1.out.below HB3.out HBx1.out.lt)
    go_upto_region 7 with (first
      | (go_at_call 7; (with_reducible refine KR3.out.mono ?_); rintro e w4 ⟨rb, rfl, htx, hb4⟩; have HT4 := Lib.hid htx; have HB4 := Lib.hid hb4; have HNew : Hid (Blk (w4.alloc (.cells (bkL hd0 (.slice none 0 0)).toArray 30)) w4.heap.size 30 (bkL hd0 (.slice none 0 0))) := (by have := Blk.new w4 30 (bkL hd0 (.slice none 0 0)).toArray; rwa [List.toList_toArray] at this); clear htx hb4; dsimp only)
      | (with_reducible refine wpList_store_mid rfl 30 (.tmp 5) (.tmp 26) rfl w4.heap.size 0 (bkL x.hd (.slice (some ⟨rb, 0, none⟩) n n)).toArray rfl rfl (there_bk HNew.out hd0_ok HK.out) (info30v HK.out) (all_oneCell_toArray bkL_one) ?_))
    have hbw : Below w4.heap.size w4 ((w4.alloc (.cells (bkL hd0 (.slice none 0 0)).toArray 30)).setCells w4.heap.size 0 (bkL x.hd (.slice (some ⟨rb, 0, none⟩) n n))) := below_setCells (Nat.le_refl _) _ 0 _ ((Below.refl _ _).alloc (Nat.le_refl _) _)
    have HX5 := Lib.hid (HNew.out.setCells (bkL x.hd (.slice (some ⟨rb, 0, none⟩) n n)) (by rw [bkL_len HK.out, bkL_len hd0_ok]))
    have HT5 := Lib.hid ((HT4.out.keep hbw (Nat.le_refl _)).up hbw.size)
    have HW5 : Hid (Below w.heap.size w ((w4.alloc (.cells (bkL hd0 (.slice none 0 0)).toArray 30)).setCells w4.heap.size 0 (bkL x.hd (.slice (some ⟨rb, 0, none⟩) n n)))) := (HW3.out.trans (HB4.out.mono HW3.out.size)).trans (hbw.mono (Nat.le_trans HW3.out.size HB4.out.size))
    have HBx5 := Lib.hid ((HBx3.out.below HB4.out HBx3.out.lt).below hbw (HBx3.out.below HB4.out HBx3.out.lt).lt)
    obtain ⟨xb, hxb⟩ : ∃ b, b = w4.heap.size := ⟨_, rfl⟩
    rw [← hxb] at HX5 HT5 HW5 HBx5 ⊢
    clear hbw HNew hxb hz HT4
    generalize ((w4.alloc (.cells (bkL hd0 (.slice none 0 0)).toArray 30)).setCells xb 0 (bkL x.hd (.slice (some ⟨rb, 0, none⟩) n n))) = W5 at HX5 HT5 HW5 HBx5 ⊢
    have KS : Hid (Calls Try.prog 12 #[.agg (bkL x.hd (.slice A n c)).toArray, .agg (bkL x.hd (.slice (some ⟨rb, 0, none⟩) n n)).toArray] W5 (BoolPost true W5)) := by
      have := bsame_any x x _ _ W5 (HH.out _ HW5.out) HT5.out HK.out HK.out
      rw [show bEq x x = true by simp [bEq]] at this
      exact this
    have HI5 := Lib.hid (info30 (v := .slice (some ⟨rb, 0, none⟩) n n) HK.out)
    go_wp2_with (first
      | (refine wpList_load_on (op := ⟨some 31, _, _, _, _, _⟩) rfl 30 (.tmp 1) rfl w.heap.size 0 rfl (bkL x.hd (.slice A n c)) _ HBx5.out.range Try.underlying30 rfl HI.out ?_)
      | (refine wpList_load_on (op := ⟨some 32, _, _, _, _, _⟩) rfl 30 (.tmp 5) rfl xb 0 rfl (bkL x.hd (.slice (some ⟨rb, 0, none⟩) n n)) _ HX5.out.range Try.underlying30 rfl HI5.out ?_)
      | (go_at_call 12; (with_reducible refine KS.out.mono ?_); rintro e w6 ⟨rfl, hb6⟩; have HB6 := Lib.hid hb6; clear hb6; dsimp only)
      | (go_at_call 10; (with_reducible refine (KW.out _).mono ?_); rintro e w7 ⟨rfl, hb7⟩; have HB7 := Lib.hid hb7; clear hb7; dsimp only))
    go_ret
    exact ⟨rfl, HW5.out.trans ((HB6.out.mono HW5.out.size).trans (HB7.out.mono (Nat.le_trans HW5.out.size HB6.out.size)))⟩
  · obtain ⟨ce, hce⟩ : ∃ c, c = bE x := ⟨_, rfl⟩
    have hcb : (ce != 0) = true := by rw [hce]; simpa using hE
    have KP1 : Hid (Calls Try.prog 13 #[.agg (bkL x.hd (.slice A n c)).toArray] w1 (NonePost ce w1)) := (KP.out _ HW1.out).mono fun e w' hp => by
      rw [hce]; exact hp.2 hE
    clear KP KL hE hce hz
    go_wp2_with (first
      | (refine wpList_load_on (op := ⟨some 11, _, _, _, _, _⟩) rfl 30 (.tmp 1) rfl w.heap.size 0 rfl (bkL x.hd (.slice A n c)) _ HBx1.out.range Try.underlying30 rfl HI.out ?_)
      | (go_at_call 13; (with_reducible refine KP1.out.mono ?_); rintro e w3 ⟨rfl, hb3⟩; have HB3 := Lib.hid hb3; clear hb3 KP1; dsimp only)
      | (go_at_call 10; (with_reducible refine (KW.out _).mono ?_); rintro e w7 ⟨rfl, hb7⟩; have HB7 := Lib.hid hb7; clear hb7; dsimp only))
    go_ret
    exact ⟨rfl, HW1.out.trans ((HB3.out.mono HW1.out.size).trans (HB7.out.mono (Nat.le_trans HW1.out.size HB3.out.size)))⟩
open Go.RowKit
theorem own : ownKnob Try.prog.godebug = none := by kernel_rfl
theorem laidOut : laidOutB Try.prog = true := by kernel_rfl
open Go.ChangeShapes Go.WideShapes Go.ChangeAt Go.RowKit Go.Deep
set_option linter.unusedVariables false
set_option linter.unusedSimpArgs false
set_option maxRecDepth 100000
section
variable {H : Type} {enc : TypeId × Value → H} {W : World} {base : Nat} {held : Bool}
theorem mid_none {w : World} {b o : Nat} {sp : Option _} {v : Value} (h : w.cell? ((⟨b, o, sp⟩ : Addr).add 0) = some v) : sp = none := by
  cases sp with
  | none => rfl
  | some q =>
    exfalso
    have e : (⟨b, o, some q⟩ : Addr).add 0 = ⟨b, o, some q⟩ := by unfold Addr.add; simp
    rw [e] at h
    unfold World.cell? at h
    revert h
    cases w.heap[b]? with
    | none => simp
    | some ob => cases ob <;> simp
theorem sl_of {fuel : Nat} {cs : List Value} {x : DataW H × List MemPlace} (h : DataW.trod enc Try.prog W base (fun _ => true) held fuel 22 cs = some x) : ∃ v L, cs = [v] ∧ Sl W W.heap.size v L := by
  rcases open_ints Try.underlying22 Try.underlying5 (by kernel_rfl) h with ⟨hcs, _⟩ | ⟨a, l, c, zs, hcs, _, hl, hm, hz, _, hcell, hwz⟩
  · exact ⟨_, [], hcs, Sl.nil _ _⟩
  · have hrow : IsRow W (some a) l c zs := .inr ⟨a, rfl, hl, hm, by simpa using hz, hcell, hwz⟩
    obtain ⟨R, hR, hrd, hlc, hcc⟩ := rd_of_row hrow
    exact ⟨_, R, hcs, some a, c, by rw [hR], hrd, by omega, hcc, fun h => by cases h⟩
theorem sl_form {v : Value} {L : List (BitVec 8)} {w : World} {B : Nat} (h : Sl w B v L) : ∃ A n c, v = .slice A n c := by
  obtain ⟨A, c, e, _⟩ := h
  exact ⟨A, _, c, e⟩
theorem ws_of {fuel : Nat} {cs : List Value} {x : DataW H × List MemPlace} (h : DataW.trod enc Try.prog W base (fun _ => true) held fuel 67 cs = some x) : ∃ v Ls, cs = [v] ∧ Ws W W.heap.size v Ls := by
  rcases open_slice1 Try.underlying67 (by kernel_rfl) h with ⟨hcs, _⟩ | ⟨a, len, cap, m, n, V, D, Pl, hcs, _, hl, hm, hmm, _, hx⟩
  · exact ⟨_, [], hcs, none, 0, rfl, Nat.le_refl _, by omega, fun h => by simp at h⟩
  · simp at hmm
    subst hmm
    have each : ∀ i, i < m → ∃ L, Sl W W.heap.size (V i) L := fun i hi => by
      obtain ⟨v, L, e, hs⟩ := sl_of (hx i hi).2
      cases e
      exact ⟨L, hs⟩
    obtain ⟨E, hE⟩ := choose_lt each
    refine ⟨_, (List.range len).map E, hcs, some a, m, by simp, by simpa using hl, by unfold maxLen at hm; omega, fun hp => ?_⟩
    simp at hp
    obtain ⟨b, o, sp⟩ := a
    have hc0 := (hx 0 (by omega)).1
    obtain rfl := mid_none hc0
    refine ⟨b, o, rfl, ?_, fun j hj => ?_⟩
    · rw [Addr.add_mid] at hc0
      exact World.block_lt_of_cell? W _ hc0
    · simp at hj
      have h1 := (hx j (by omega)).1
      rw [Addr.add_mid] at h1
      refine ⟨V j, by rw [Nat.mul_one]; exact h1, ?_⟩
      have e : ((List.range len).map E).getD j [] = E j := by simp [List.getD, hj]
      rw [e]
      exact hE j (by omega)
theorem hash_of {fuel : Nat} {cs : List Value} {x : DataW H × List MemPlace} (h : DataW.trod enc Try.prog W base (fun _ => true) held fuel 25 cs = some x) : ∃ X : List (BitVec 8), X.length = 32 ∧ cs = vbs X := by
  obtain ⟨xs, m, _, _, hlen, hxl, hi⟩ := DataW.trod_array Try.underlying25 h
  have h32 : Try.prog.cellsOf 25 = 32 := by kernel_rfl
  have h1 : Try.prog.cellsOf 5 = 1 := by kernel_rfl
  rw [h32] at hlen
  have each : ∀ i, i < 32 → ∃ z : BitVec 8, cs[i]? = some (.int .u8 (Bt z)) := fun i hi' => by
    have hk := hi i hi'
    rw [h1, Nat.mul_one] at hk
    have hx : xs[i]? = some (xs[i]'(by omega)) := List.getElem?_eq_getElem (by omega)
    rw [hx] at hk
    obtain ⟨n, e, _, hwf⟩ := DataW.trod_int Try.underlying5 hk
    have : cs[i]? = some (.int .u8 n) := by
      have e2 : ((cs.drop i).take 1)[0]? = some (.int .u8 n) := by rw [e]; rfl
      simpa using e2
    exact ⟨BitVec.ofInt 8 n, by rw [byte_of hwf]; exact this⟩
  obtain ⟨E, hE⟩ := choose_lt each
  refine ⟨(List.range 32).map E, by simp, ?_⟩
  apply List.ext_getElem?
  intro i
  by_cases hi' : i < 32
  · rw [hE i hi']
    simp [vbs, hi']
  · rw [List.getElem?_eq_none (by omega), List.getElem?_eq_none (by simp [vbs]; omega)]
theorem u32_of {fuel : Nat} {cs : List Value} {x : DataW H × List MemPlace} (h : DataW.trod enc Try.prog W base (fun _ => true) held fuel 23 cs = some x) : ∃ n : Nat, n < 4294967296 ∧ cs = [.int .u32 (n : Int)] := by
  obtain ⟨n, e, _, hwf⟩ := DataW.trod_int Try.underlying23 h
  have hb : 0 ≤ n ∧ n ≤ 4294967295 := by
    have := hwf
    simp [Lit.wf, IntKind.min, IntKind.max, IntKind.signed, IntKind.bits] at this
    omega
  exact ⟨n.toNat, by omega, by rw [e, show ((n.toNat : Nat) : Int) = n by omega]⟩
theorem i64_of {fuel : Nat} {cs : List Value} {x : DataW H × List MemPlace} (h : DataW.trod enc Try.prog W base (fun _ => true) held fuel 2 cs = some x) : ∃ n : Int, -9223372036854775808 ≤ n ∧ n < 9223372036854775808 ∧ cs = [.int .i64 n] := by
  obtain ⟨n, e, _, hwf⟩ := DataW.trod_int Try.underlying2 h
  have hb : -9223372036854775808 ≤ n ∧ n ≤ 9223372036854775807 := by
    have := hwf
    simp [Lit.wf, IntKind.min, IntKind.max, IntKind.signed, IntKind.bits] at this
    omega
  exact ⟨n, by omega, by omega, e⟩
theorem field_of {fuel : Nat} {t : TypeId} {cs : List Value} {x : DataW H × List MemPlace} {fs : Array Field} (ht : Try.prog.underlying t = some (.struct fs)) (h : DataW.trod enc Try.prog W base (fun _ => true) held fuel t cs = some x) (i : Nat) (f : Field) (hf : fs[i]? = some f) :
    ∃ n y, DataW.trod enc Try.prog W base (fun _ => true) held n f.type ((cs.drop f.offset).take (Try.prog.cellsOf f.type)) = some y := by
  obtain ⟨xs, n, _, _, hlen, hxl, hi⟩ := DataW.trod_struct ht h
  have hk := hi i f hf
  have hx : xs[i]? = some (xs[i]'(by have := (Array.getElem?_eq_some_iff.1 hf).1; omega)) := List.getElem?_eq_getElem _
  rw [hx] at hk
  exact ⟨n, _, hk⟩
theorem prev_of {fuel : Nat} {cs : List Value} {x : DataW H × List MemPlace} (h : DataW.trod enc Try.prog W base (fun _ => true) held fuel 66 cs = some x) : ∃ X a, X.length = 32 ∧ a < 4294967296 ∧ cs = prevV X a := by
  have hl : cs.length = 33 := by
    obtain ⟨xs, n, _, _, hlen, _⟩ := DataW.trod_struct Try.underlying66 h
    rw [hlen]; kernel_rfl
  obtain ⟨n1, y1, h1⟩ := field_of Try.underlying66 h 0 _ rfl
  obtain ⟨n2, y2, h2⟩ := field_of Try.underlying66 h 1 _ rfl
  obtain ⟨X, hX, e1⟩ := hash_of h1
  obtain ⟨a, ha, e2⟩ := u32_of h2
  refine ⟨X, a, hX, ha, ?_⟩
  have c1 : Try.prog.cellsOf 25 = 32 := by kernel_rfl
  have c2 : Try.prog.cellsOf 23 = 1 := by kernel_rfl
  have e1' : cs.take 32 = vbs X := by rw [← e1]; simp [c1]
  have e2' : cs.drop 32 = [.int .u32 (a : Int)] := by rw [← e2]; simp [c2, List.take_of_length_le, hl]
  unfold prevV
  rw [← e1', ← e2', List.take_append_drop]
end
open Go.ChangeShapes Go.WideShapes Go.ChangeAt Go.RowKit Go.Deep
set_option linter.unusedVariables false
set_option linter.unusedSimpArgs false
set_option maxRecDepth 100000
instance inhIn : Inhabited TIn := ⟨In0⟩
instance inhOut : Inhabited TOut := ⟨Out0⟩
section
variable {H : Type} {enc : TypeId × Value → H} {W : World} {base : Nat} {held : Bool}
theorem in_of {fuel : Nat} {cs : List Value} {x : DataW H × List MemPlace} (h : DataW.trod enc Try.prog W base (fun _ => true) held fuel 69 cs = some x) : ∃ t s u, cs = inV t s u ∧ InOk W W.heap.size t s u := by
  have hl : cs.length = 36 := by
    obtain ⟨xs, n, _, _, hlen, _⟩ := DataW.trod_struct Try.underlying69 h
    rw [hlen]; kernel_rfl
  obtain ⟨n0, y0, h0⟩ := field_of Try.underlying69 h 0 _ rfl
  obtain ⟨n1, y1, h1⟩ := field_of Try.underlying69 h 1 _ rfl
  obtain ⟨n2, y2, h2⟩ := field_of Try.underlying69 h 2 _ rfl
  obtain ⟨n3, y3, h3⟩ := field_of Try.underlying69 h 3 _ rfl
  obtain ⟨X, a, hX, ha, e0⟩ := prev_of h0
  obtain ⟨s, L, e1, hs⟩ := sl_of h1
  obtain ⟨q, hq, e2⟩ := u32_of h2
  obtain ⟨u, Ls, e3, hu⟩ := ws_of h3
  refine ⟨⟨X, a, L, q, Ls⟩, s, u, ?_, hs, hu, hX, ha, hq⟩
  have c0 : Try.prog.cellsOf 66 = 33 := by kernel_rfl
  have c1 : Try.prog.cellsOf 22 = 1 := by kernel_rfl
  have c2 : Try.prog.cellsOf 23 = 1 := by kernel_rfl
  have c3 : Try.prog.cellsOf 67 = 1 := by kernel_rfl
  have e0' : cs.take 33 = prevV X a := by rw [← e0]; simp [c0]
  have e1' : (cs.drop 33).take 1 = [s] := by rw [← e1]; simp [c1]
  have e2' : (cs.drop 34).take 1 = [.int .u32 (q : Int)] := by rw [← e2]; simp [c2]
  have e3' : (cs.drop 35).take 1 = [u] := by rw [← e3]; simp [c3]
  have g1 : cs.drop 33 = [s] ++ cs.drop 34 := by rw [← e1', show cs.drop 34 = (cs.drop 33).drop 1 by simp, List.take_append_drop]
  have g2 : cs.drop 34 = [.int .u32 (q : Int)] ++ cs.drop 35 := by rw [← e2', show cs.drop 35 = (cs.drop 34).drop 1 by simp, List.take_append_drop]
  have g3 : cs.drop 35 = [u] := by rw [← e3', List.take_of_length_le (by simp [hl])]
  rw [inV_prev]
  show cs = prevV X a ++ [s, .int .u32 (q : Int), u]
  rw [← List.take_append_drop 33 cs, e0', g1, g2, g3]
  rfl
theorem out_of {fuel : Nat} {cs : List Value} {x : DataW H × List MemPlace} (h : DataW.trod enc Try.prog W base (fun _ => true) held fuel 71 cs = some x) : ∃ y s, cs = outV y s ∧ OutOk W W.heap.size y s := by
  have hl : cs.length = 2 := by
    obtain ⟨xs, n, _, _, hlen, _⟩ := DataW.trod_struct Try.underlying71 h
    rw [hlen]; kernel_rfl
  obtain ⟨n0, y0, h0⟩ := field_of Try.underlying71 h 0 _ rfl
  obtain ⟨n1, y1, h1⟩ := field_of Try.underlying71 h 1 _ rfl
  obtain ⟨z, hz1, hz2, e0⟩ := i64_of h0
  obtain ⟨s, L, e1, hs⟩ := sl_of h1
  refine ⟨⟨z, L⟩, s, ?_, hs, hz1, hz2⟩
  have c0 : Try.prog.cellsOf 2 = 1 := by kernel_rfl
  have c1 : Try.prog.cellsOf 22 = 1 := by kernel_rfl
  have e0' : cs.take 1 = [.int .i64 z] := by rw [← e0]; simp [c0]
  have e1' : cs.drop 1 = [s] := by
    have h1' : (cs.drop 1).take 1 = [s] := by rw [← e1]; simp [c1]
    rw [← h1']; exact (List.take_of_length_le (by simp [hl])).symm
  show cs = [.int .i64 z, s]
  rw [← List.take_append_drop 1 cs, e0', e1']
  rfl
theorem range_of {b o n : Nat} {cs : List Value} (h : W.cells? base (⟨b, o, none⟩ : Addr) n = some cs) : W.rangeAt b o cs ∧ (0 < n → b < W.heap.size) := by
  obtain ⟨_, hl, hi⟩ := World.cells?_some h
  refine ⟨fun j v hv => ?_, fun hp => ?_⟩
  · have hj : j < n := by rw [← hl]; exact (List.getElem?_eq_some_iff.1 hv).1
    have := hi j hj
    rw [Addr.add_mid] at this
    rw [this]; exact hv
  · have := hi 0 hp
    rw [Addr.add_mid, List.getElem?_eq_getElem (by omega)] at this
    exact World.block_lt_of_cell? W _ this
theorem mid_of {b o n k : Nat} {sp : Option _} {cs : List Value} (h : W.cells? base ((⟨b, o, sp⟩ : Addr).add 0) (n + 1) = some cs) : sp = none := by
  obtain ⟨_, hl, hi⟩ := World.cells?_some h
  have := hi 0 (by omega)
  rw [List.getElem?_eq_getElem (by omega)] at this
  have e : ((⟨b, o, sp⟩ : Addr).add 0).add 0 = (⟨b, o, sp⟩ : Addr).add 0 := by unfold Addr.add; simp
  rw [e] at this
  exact mid_none this
theorem is_of {fuel : Nat} {cs : List Value} {x : DataW H × List MemPlace} (h : DataW.trod enc Try.prog W base (fun _ => true) held fuel 57 cs = some x) : ∃ v xs, cs = [v] ∧ Is W W.heap.size v xs := by
  rcases open_slice Try.underlying57 h with ⟨hcs, _⟩ | ⟨a, len, cap, m, n, D, Pl, hcs, _, hl, hm, hmm, _, hx⟩
  · exact ⟨_, [], hcs, none, 0, rfl, Nat.le_refl _, by omega, fun h => by simp at h⟩
  · simp at hmm
    subst hmm
    have c60 : Try.prog.cellsOf 69 = 36 := by kernel_rfl
    rw [c60] at hx
    have each : ∀ i, i < m → ∃ t : TIn, ∃ s u, W.cells? base (a.add (i * 36)) 36 = some (inV t s u) ∧ InOk W W.heap.size t s u := fun i hi => by
      obtain ⟨cs', hc, ht⟩ := hx i hi
      obtain ⟨t, s, u, e, ok⟩ := in_of ht
      exact ⟨t, s, u, by rw [← e]; exact hc, ok⟩
    obtain ⟨E, hE⟩ := choose_lt each
    refine ⟨_, (List.range len).map E, hcs, some a, m, by simp, by simpa using hl, by unfold maxLen at hm; omega, fun hp => ?_⟩
    simp at hp
    obtain ⟨b, o, sp⟩ := a
    obtain ⟨s0, u0, hc0, _⟩ := hE 0 (by omega)
    rw [Nat.zero_mul] at hc0
    obtain rfl := mid_of (n := 35) (k := 0) hc0
    refine ⟨b, o, rfl, ?_, fun j hj => ?_⟩
    · rw [Addr.add_mid] at hc0
      exact (range_of hc0).2 (by omega)
    · simp at hj
      obtain ⟨s, u, hc, ok⟩ := hE j (by omega)
      rw [Addr.add_mid] at hc
      have e : ((List.range len).map E).getD j In0 = E j := by simp [List.getD, hj]
      rw [e]
      exact ⟨s, u, (range_of hc).1, ok⟩
theorem os_of {fuel : Nat} {cs : List Value} {x : DataW H × List MemPlace} (h : DataW.trod enc Try.prog W base (fun _ => true) held fuel 58 cs = some x) : ∃ v xs, cs = [v] ∧ Os W W.heap.size v xs := by
  rcases open_slice Try.underlying58 h with ⟨hcs, _⟩ | ⟨a, len, cap, m, n, D, Pl, hcs, _, hl, hm, hmm, _, hx⟩
  · exact ⟨_, [], hcs, none, 0, rfl, Nat.le_refl _, by omega, fun h => by simp at h⟩
  · simp at hmm
    subst hmm
    have c65 : Try.prog.cellsOf 71 = 2 := by kernel_rfl
    rw [c65] at hx
    have each : ∀ i, i < m → ∃ t : TOut, ∃ s, W.cells? base (a.add (i * 2)) 2 = some (outV t s) ∧ OutOk W W.heap.size t s := fun i hi => by
      obtain ⟨cs', hc, ht⟩ := hx i hi
      obtain ⟨t, s, e, ok⟩ := out_of ht
      exact ⟨t, s, by rw [← e]; exact hc, ok⟩
    obtain ⟨E, hE⟩ := choose_lt each
    refine ⟨_, (List.range len).map E, hcs, some a, m, by simp, by simpa using hl, by unfold maxLen at hm; omega, fun hp => ?_⟩
    simp at hp
    obtain ⟨b, o, sp⟩ := a
    obtain ⟨s0, hc0, _⟩ := hE 0 (by omega)
    rw [Nat.zero_mul] at hc0
    obtain rfl := mid_of (n := 1) (k := 0) hc0
    refine ⟨b, o, rfl, ?_, fun j hj => ?_⟩
    · rw [Addr.add_mid] at hc0
      exact (range_of hc0).2 (by omega)
    · simp at hj
      obtain ⟨s, hc, ok⟩ := hE j (by omega)
      rw [Addr.add_mid] at hc
      have e : ((List.range len).map E).getD j Out0 = E j := by simp [List.getD, hj]
      rw [e]
      exact ⟨s, (range_of hc).1, ok⟩
theorem tx_of {r : Reach} {b0 : Nat} {v : Value} {d : DataW H} {p : List MemPlace} (hv : Value.okWide Try.prog W r b0 60 v) (h : DataW.Trod enc Try.prog W base (fun _ => true) held 60 v d p) :
    ∃ t i o, v = txV t i o ∧ TxOk W W.heap.size t i o := by
  obtain ⟨cs, rfl, hsz⟩ := okWide_struct Try.underlying60 hv
  obtain ⟨fuel, hf⟩ := h
  have hl : cs.size = 4 := by rw [hsz]; kernel_rfl
  obtain ⟨l⟩ := cs
  have hf' : DataW.trod enc Try.prog W base (fun _ => true) held fuel 60 l = some (d, p) := by simpa [Value.cells] using hf
  obtain ⟨n0, y0, h0⟩ := field_of Try.underlying60 hf' 0 _ rfl
  obtain ⟨n1, y1, h1⟩ := field_of Try.underlying60 hf' 1 _ rfl
  obtain ⟨n2, y2, h2⟩ := field_of Try.underlying60 hf' 2 _ rfl
  obtain ⟨n3, y3, h3⟩ := field_of Try.underlying60 hf' 3 _ rfl
  obtain ⟨ver, hver, e0⟩ := u32_of h0
  obtain ⟨i, xs, e1, hi⟩ := is_of h1
  obtain ⟨o, ys, e2, ho⟩ := os_of h2
  obtain ⟨lock, hlock, e3⟩ := u32_of h3
  have c0 : Try.prog.cellsOf 23 = 1 := by kernel_rfl
  have c1 : Try.prog.cellsOf 57 = 1 := by kernel_rfl
  have c2 : Try.prog.cellsOf 58 = 1 := by kernel_rfl
  match l, hl with
  | [a, b, c, e], _ =>
    refine ⟨⟨ver, xs, ys, lock⟩, i, o, ?_, hi, ho, hver, hlock⟩
    simp [c0] at e0 e3
    simp [c1] at e1
    simp [c2] at e2
    rw [e0, e1, e2, e3]
    rfl
end
open Go.ChangeShapes Go.WideShapes Go.ChangeAt Go.RowKit Go.Deep
set_option linter.unusedVariables false
set_option linter.unusedSimpArgs false
set_option maxRecDepth 100000
instance inhTx : Inhabited TTx := ⟨tx00⟩
section
variable {H : Type} {enc : TypeId × Value → H} {W : World} {base : Nat} {held : Bool}
theorem hd_of {fuel : Nat} {cs : List Value} {x : DataW H × List MemPlace} (h : DataW.trod enc Try.prog W base (fun _ => true) held fuel 27 cs = some x) : ∃ g : THd, HdOk g ∧ cs = hdV g := by
  have hl : cs.length = 68 := by
    obtain ⟨xs, n, _, _, hlen, _⟩ := DataW.trod_struct Try.underlying27 h
    rw [hlen]; kernel_rfl
  obtain ⟨n0, y0, h0⟩ := field_of Try.underlying27 h 0 _ rfl
  obtain ⟨n1, y1, h1⟩ := field_of Try.underlying27 h 1 _ rfl
  obtain ⟨n2, y2, h2⟩ := field_of Try.underlying27 h 2 _ rfl
  obtain ⟨n3, y3, h3⟩ := field_of Try.underlying27 h 3 _ rfl
  obtain ⟨n4, y4, h4⟩ := field_of Try.underlying27 h 4 _ rfl
  obtain ⟨n5, y5, h5⟩ := field_of Try.underlying27 h 5 _ rfl
  obtain ⟨ver, hv, e0⟩ := u32_of h0
  obtain ⟨X, hX, e1⟩ := hash_of h1
  obtain ⟨Y, hY, e2⟩ := hash_of h2
  obtain ⟨ti, hti, e3⟩ := u32_of h3
  obtain ⟨bi, hbi, e4⟩ := u32_of h4
  obtain ⟨no, hno, e5⟩ := u32_of h5
  have c1 : Try.prog.cellsOf 23 = 1 := by kernel_rfl
  have c2 : Try.prog.cellsOf 25 = 32 := by kernel_rfl
  have e0' : cs.take 1 = [.int .u32 (ver : Int)] := by rw [← e0]; simp [c1]
  have e1' : (cs.drop 1).take 32 = vbs X := by rw [← e1]; simp [c2]
  have e2' : (cs.drop 33).take 32 = vbs Y := by rw [← e2]; simp [c2]
  have e3' : (cs.drop 65).take 1 = [.int .u32 (ti : Int)] := by rw [← e3]; simp [c1]
  have e4' : (cs.drop 66).take 1 = [.int .u32 (bi : Int)] := by rw [← e4]; simp [c1]
  have e5' : (cs.drop 67).take 1 = [.int .u32 (no : Int)] := by rw [← e5]; simp [c1]
  have g1 : cs.drop 1 = vbs X ++ cs.drop 33 := by rw [← e1', show cs.drop 33 = (cs.drop 1).drop 32 by simp, List.take_append_drop]
  have g2 : cs.drop 33 = vbs Y ++ cs.drop 65 := by rw [← e2', show cs.drop 65 = (cs.drop 33).drop 32 by simp, List.take_append_drop]
  have g3 : cs.drop 65 = [.int .u32 (ti : Int)] ++ cs.drop 66 := by rw [← e3', show cs.drop 66 = (cs.drop 65).drop 1 by simp, List.take_append_drop]
  have g4 : cs.drop 66 = [.int .u32 (bi : Int)] ++ cs.drop 67 := by rw [← e4', show cs.drop 67 = (cs.drop 66).drop 1 by simp, List.take_append_drop]
  have g5 : cs.drop 67 = [.int .u32 (no : Int)] := by rw [← e5', List.take_of_length_le (by simp [hl])]
  refine ⟨⟨ver, X, Y, ti, bi, no⟩, ⟨hX, hY, hv, hti, hbi, hno⟩, ?_⟩
  rw [← List.take_append_drop 1 cs, e0', g1, g2, g3, g4, g5]
  rfl
theorem tx4_of {fuel : Nat} {cs : List Value} {x : DataW H × List MemPlace} (h : DataW.trod enc Try.prog W base (fun _ => true) held fuel 60 cs = some x) : ∃ t i o, cs = tx4 t i o ∧ TxOk W W.heap.size t i o := by
  have hl : cs.length = 4 := by
    obtain ⟨xs, n, _, _, hlen, _⟩ := DataW.trod_struct Try.underlying60 h
    rw [hlen]; kernel_rfl
  obtain ⟨n0, y0, h0⟩ := field_of Try.underlying60 h 0 _ rfl
  obtain ⟨n1, y1, h1⟩ := field_of Try.underlying60 h 1 _ rfl
  obtain ⟨n2, y2, h2⟩ := field_of Try.underlying60 h 2 _ rfl
  obtain ⟨n3, y3, h3⟩ := field_of Try.underlying60 h 3 _ rfl
  obtain ⟨ver, hver, e0⟩ := u32_of h0
  obtain ⟨i, xs, e1, hi⟩ := is_of h1
  obtain ⟨o, ys, e2, ho⟩ := os_of h2
  obtain ⟨lock, hlock, e3⟩ := u32_of h3
  have c0 : Try.prog.cellsOf 23 = 1 := by kernel_rfl
  have c1 : Try.prog.cellsOf 57 = 1 := by kernel_rfl
  have c2 : Try.prog.cellsOf 58 = 1 := by kernel_rfl
  match cs, hl with
  | [a, b, c, e], _ =>
    refine ⟨⟨ver, xs, ys, lock⟩, i, o, ?_, hi, ho, hver, hlock⟩
    simp [c0] at e0 e3
    simp [c1] at e1
    simp [c2] at e2
    rw [e0, e1, e2, e3]
    rfl
theorem txs_of {fuel : Nat} {cs : List Value} {x : DataW H × List MemPlace} (h : DataW.trod enc Try.prog W base (fun _ => true) held fuel 28 cs = some x) : ∃ v ts, cs = [v] ∧ Txs W W.heap.size v ts := by
  rcases open_slice Try.underlying28 h with ⟨hcs, _⟩ | ⟨a, len, cap, m, n, D, Pl, hcs, _, hl, hm, hmm, _, hx⟩
  · exact ⟨_, [], hcs, none, 0, rfl, Nat.le_refl _, by omega, fun h => by simp at h⟩
  · simp at hmm
    subst hmm
    have c60 : Try.prog.cellsOf 60 = 4 := by kernel_rfl
    rw [c60] at hx
    have each : ∀ i, i < m → ∃ t : TTx, ∃ s u, W.cells? base (a.add (i * 4)) 4 = some (tx4 t s u) ∧ TxOk W W.heap.size t s u := fun i hi => by
      obtain ⟨cs', hc, ht⟩ := hx i hi
      obtain ⟨t, s, u, e, ok⟩ := tx4_of ht
      exact ⟨t, s, u, by rw [← e]; exact hc, ok⟩
    obtain ⟨E, hE⟩ := choose_lt each
    refine ⟨_, (List.range len).map E, hcs, some a, m, by simp, by simpa using hl, by unfold maxLen at hm; omega, fun hp => ?_⟩
    simp at hp
    obtain ⟨b, o, sp⟩ := a
    obtain ⟨s0, u0, hc0, _⟩ := hE 0 (by omega)
    rw [Nat.zero_mul] at hc0
    obtain rfl := mid_of (n := 3) (k := 0) hc0
    refine ⟨b, o, rfl, ?_, fun j hj => ?_⟩
    · rw [Addr.add_mid] at hc0
      exact (range_of hc0).2 (by omega)
    · simp at hj
      obtain ⟨s, u, hc, ok⟩ := hE j (by omega)
      rw [Addr.add_mid] at hc
      have e : ((List.range len).map E).getD j tx00 = E j := by simp [List.getD, hj]
      rw [e]
      exact ⟨s, u, (range_of hc).1, ok⟩
theorem bk_of {r : Reach} {b0 : Nat} {v : Value} {d : DataW H} {p : List MemPlace} (hv : Value.okWide Try.prog W r b0 30 v) (h : DataW.Trod enc Try.prog W base (fun _ => true) held 30 v d p) :
    ∃ x u, v = .agg (bkL (TBk.hd x) u).toArray ∧ Txs W W.heap.size u (TBk.txs x) ∧ HdOk (TBk.hd x) := by
  obtain ⟨cs, rfl, hsz⟩ := okWide_struct Try.underlying30 hv
  obtain ⟨fuel, hf⟩ := h
  have hl : cs.size = 69 := by rw [hsz]; kernel_rfl
  obtain ⟨l⟩ := cs
  have hl : l.length = 69 := hl
  have hf' : DataW.trod enc Try.prog W base (fun _ => true) held fuel 30 l = some (d, p) := by simpa [Value.cells] using hf
  obtain ⟨n0, y0, h0⟩ := field_of Try.underlying30 hf' 0 _ rfl
  obtain ⟨n1, y1, h1⟩ := field_of Try.underlying30 hf' 1 _ rfl
  obtain ⟨g, hg, e0⟩ := hd_of h0
  obtain ⟨u, ts, e1, ht⟩ := txs_of h1
  have c0 : Try.prog.cellsOf 27 = 68 := by kernel_rfl
  have c1 : Try.prog.cellsOf 28 = 1 := by kernel_rfl
  have e0' : l.take 68 = hdV g := by rw [← e0]; simp [c0]
  have e1' : l.drop 68 = [u] := by
    have h1' : (l.drop 68).take 1 = [u] := by rw [← e1]; simp [c1]
    rw [← h1']; exact (List.take_of_length_le (by simp [hl])).symm
  refine ⟨⟨g, ts⟩, u, ?_, ht, hg⟩
  show Value.agg ⟨l⟩ = .agg (hdV g ++ [u]).toArray
  rw [← e0', ← e1', List.take_append_drop]
end
end Go.Proofs.Ytpamepkcbhoiaaa
