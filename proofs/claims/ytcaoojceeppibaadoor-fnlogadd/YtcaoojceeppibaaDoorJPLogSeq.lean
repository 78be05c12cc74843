/-
  The walk of the law FnLogSeq out of the contracts. Conditions: the argument reads as bytes; the table 'creators' holds what its initialiser lays.
-/
import Derived.Test.YtcaoojceeppibaaDoorGR
import Derived.Test.YtcaoojceeppibaaDoorGM
namespace Go.Proofs.YtcaoojceeppibaaDoor
open Go.ChangeShapes Go.WideShapes Go.ChangeAt Go.RowKit Go.Joins

theorem step_seq {es : List EntD} {n k : Nat} (h : logTo es n = true) (hk : k < n) : (eat es k).seq = (cntTo es (eat es k).who k : Int) + 1 := by
  have := logTo_at h hk
  simp only [estepB, Bool.and_eq_true, beq_iff_eq] at this
  exact this.2
theorem Logs.tab {w w' : World} {g oc : Nat} {es : List EntD} (h : Logs w w' g oc es) (ht : Tab w) (hz : 0 < w.heap.size) : Tab w' := ht.below h.low hz
set_option maxRecDepth 100000 in
set_option maxHeartbeats 4000000 in
theorem fnLogSeq_walk (w : World) (ht : Tab w) (a : Option Addr) (len cap : Nat) (hb : Bytes w a len cap) :
    Calls Tryd.prog 9 #[.slice a len cap] w fun e w' => e = .returned (.bool true) ∧ Below w.heap.size w w' := by
  have hz := ht.pos
  by_cases hlen : len ≤ 1048576
  · have i0 : (len : Int) ≤ 1048576 := by omega
    have HD := Lib.hid (drawLogSeq_any a len cap w hb)
    clear hb
    go_enter Tryd.func9, Tryd.ntmps9
    go_wp2_with fail
    refine HD.out.mono ?_
    rintro _ w1 ⟨g, oc, es, who, rfl, who1, who4, L1⟩
    have HI : Hid (∀ (x : World) (q : Int), I64 q → Logs w x g oc es → Calls Tryd.prog 35 #[.slice (some ⟨g, 0, none⟩) es.length oc, .int .i64 q] x (RetBelow (.int .i64 (lseqI es q)) x)) := fun x q hq hL => implLogSeq_any x.heap.size _ _ _ q x (Nat.le_refl _) hL.at_ hL.fit (hL.tab ht hz) hq
    have HS : Hid (∀ (x : World), Logs w x g oc es → Calls Tryd.prog 38 #[.slice (some ⟨g, 0, none⟩) es.length oc, .int .i64 who] x (RetBelow (.int .i64 (lseqI es who)) x)) := fun x hL => specLogSeq_any x.heap.size _ _ _ who x (Nat.le_refl _) hL.at_ hL.fit hL.cap.1 hL.cap.2
    have HO : Hid (∀ (x : World), Logs w x g oc es → Calls Tryd.prog 33 #[.slice (some ⟨g, 0, none⟩) es.length oc] x (RetBelow (.bool (logB es)) x)) := fun x hL => specLogOk_any x.heap.size _ _ _ x (Nat.le_refl _) hL.at_ hL.fit hL.cap.1 hL.cap.2
    have hIw : I64 who := ⟨by omega, by omega⟩
    have hel := L1.len
    have HLS : Hid (∀ q, logB es = true → lseqI es q = (cntTo es q es.length : Int)) := fun q h => by unfold lseqI; rw [h]; rfl
    go_wp2_with fail
    refine (HI.out w1 who hIw L1).mono ?_
    rintro _ w2 ⟨rfl, hb2⟩
    have L2 := L1.below hb2
    clear L1 hb2
    go_wp2_with fail
    refine (HS.out w2 L2).mono ?_
    rintro _ w3 ⟨rfl, hb3⟩
    have L3 := L2.below hb3
    clear L2 hb3
    go_wp2_with fail
    refine (HO.out w3 L3).mono ?_
    rintro _ w4 ⟨rfl, hb4⟩
    have L4 := L3.below hb4
    clear L3 hb4 HO
    cases hlg : logB es
    · generalize lseqI es who = n at *
      go_wp2_with fail
      refine (HS.out w4 L4).mono ?_
      rintro _ w5 ⟨rfl, hb5⟩
      have L5 := L4.below hb5
      go_wp2
      go_ret
      exact ⟨rfl, L5.low⟩
    · have HLT := Lib.hid (logB_to hlg).1
      have HV := Lib.hid (HLS.out who hlg)
      have H1 := Lib.hid (HLS.out 1 hlg)
      have H2 := Lib.hid (HLS.out 2 hlg)
      have H3 := Lib.hid (HLS.out 3 hlg)
      have HSUM := Lib.hid (cnt_sum (logB_to hlg).1)
      clear hlg HS HLS
      rw [HV.out]
      go_wp2_with fail
      go_loopw [6, 7] (fun kv t wr => ∃ k : Nat, k ≤ es.length ∧ t = .int .i64 k ∧ kv = .int .i64 (cntTo es who k : Int) ∧ Logs w wr g oc es) (fun _ t _ => es.length - (intOf t).toNat)
      case atStart => exact ⟨0, Nat.zero_le _, rfl, rfl, L4⟩
      case round =>
        obtain ⟨k, hk, rfl, rfl, L5⟩ := hrel
        clear L4
        have hc := cntTo_le es who k
        have HC := Lib.hid (cntTo_succ es who k)
        by_cases hlt : k < es.length
        · have HSQ := Lib.hid (step_seq HLT.out hlt)
          generalize hcv : cntTo es who k = c at *
          have HCV := Lib.hid hcv
          clear hcv
          obtain ⟨_, _, e5, _, c0, c1, _, _, _, _, _⟩ := L5.at_.at_ hlt
          cases e5
          simp only [Nat.zero_add] at c0 c1
          have i1 : (k : Int) < (es.length : Int) := by omega
          by_cases he : (eat es k).who = who
          · have HC' : Hid (cntTo es who (k + 1) = c + 1) := by unfold Hid; rw [HC.out, if_pos he]
            have HQ : Hid ((eat es k).seq = (c : Int) + 1) := by unfold Hid; rw [HSQ.out, he, HCV.out]
            rw [he] at c0
            rw [HQ.out] at c1
            clear HC he HSQ HQ HCV
            go_wp2
            go_roundw
            case rel => exact ⟨k + 1, by omega, by go_num, by rw [HC'.out]; go_num, L5⟩
            case measure => simp [intOf]; omega
          · have HC' : Hid (cntTo es who (k + 1) = c) := by unfold Hid; rw [HC.out, if_neg he]; rfl
            clear HC HSQ HCV
            go_wp2
            go_roundw
            case rel => exact ⟨k + 1, by omega, by go_num, by rw [HC'.out], L5⟩
            case measure => simp [intOf]; omega
        · obtain rfl : k = es.length := by omega
          go_wp2_with fail
          refine (HI.out wr 1 ⟨by omega, by omega⟩ L5).mono ?_
          rintro _ w6 ⟨rfl, hb6⟩
          have L6 := L5.below hb6
          clear L5 hb6
          go_wp2_with fail
          refine (HI.out w6 2 ⟨by omega, by omega⟩ L6).mono ?_
          rintro _ w7 ⟨rfl, hb7⟩
          have L7 := L6.below hb7
          clear L6 hb7
          rw [H1.out, H2.out]
          have q1 := cntTo_le es 1 es.length
          have q2 := cntTo_le es 2 es.length
          have q3 := cntTo_le es 3 es.length
          go_wp2_with fail
          refine (HI.out w7 3 ⟨by omega, by omega⟩ L7).mono ?_
          rintro _ w8 ⟨rfl, hb8⟩
          have L8 := L7.below hb8
          clear L7 hb8
          rw [H3.out]
          have hsum : (cntTo es 1 es.length : Int) + (cntTo es 2 es.length : Int) + (cntTo es 3 es.length : Int) = (es.length : Int) := by have := HSUM.out; omega
          generalize cntTo es 1 es.length = n1 at *
          generalize cntTo es 2 es.length = n2 at *
          generalize cntTo es 3 es.length = n3 at *
          have hsb : ((n1 : Int) + (n2 : Int) + (n3 : Int) == (es.length : Int)) = true := by simpa using hsum
          clear hsum
          go_wp2
          go_ret
          exact ⟨by first | rfl | simp, L8.low⟩
  · have i0 : ¬ (len : Int) ≤ 1048576 := by omega
    go_enter Tryd.func9, Tryd.ntmps9
    go_wp2
    go_ret
    exact ⟨rfl, Below.refl _ _⟩
end Go.Proofs.YtcaoojceeppibaaDoor
