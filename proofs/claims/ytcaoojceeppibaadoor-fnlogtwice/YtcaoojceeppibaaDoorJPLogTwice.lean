/-
  The walk of the law FnLogTwice out of the contracts. Conditions: the argument reads as bytes; the table 'creators' holds what its initialiser lays.
-/
import Derived.Test.YtcaoojceeppibaaDoorJPAdd
namespace Go.Proofs.YtcaoojceeppibaaDoor
open Go.ChangeShapes Go.WideShapes Go.ChangeAt Go.RowKit Go.Joins

set_option maxRecDepth 100000 in
set_option maxHeartbeats 8000000 in
theorem fnLogTwice_walk (w : World) (ht : Tab w) (a : Option Addr) (len cap : Nat) (hb : Bytes w a len cap) :
    Calls Tryd.prog 8 #[.slice a len cap] w fun e w' => e = .returned (.bool true) ∧ Below w.heap.size w w' := by
  have hz := ht.pos
  by_cases hlen : len ≤ 1048576
  · have i0 : (len : Int) ≤ 1048576 := by omega
    have HD := Lib.hid (drawLogAdd_any a len cap w hb)
    clear hb
    go_enter Tryd.func8, Tryd.ntmps8
    go_wp2_with fail
    refine HD.out.mono ?_
    rintro _ w1 ⟨g, oc, es, e, rfl, hE, L1⟩
    have HSA : Hid (∀ x : World, Logs w x g oc es → Calls Tryd.prog 30 #[.slice (some ⟨g, 0, none⟩) es.length oc, .agg #[.int .i64 e.who, .int .i64 e.seq, .int .i64 e.op.kind, .int .i64 e.op.id, .int .i64 e.op.up, .int .i64 e.op.at_, .string e.op.txt]] x (RetL (addL es e) (addN es e) x)) := fun x hL => specLogAdd_any g 0 oc es e x hL.hi hL.at_ hL.fit hE.fit hL.cap.1 hL.cap.2
    have HIA : Hid (∀ x : World, Logs w x g oc es → Calls Tryd.prog 31 #[.slice (some ⟨g, 0, none⟩) es.length oc, .agg #[.int .i64 e.who, .int .i64 e.seq, .int .i64 e.op.kind, .int .i64 e.op.id, .int .i64 e.op.up, .int .i64 e.op.at_, .string e.op.txt]] x (RetL (addL es e) (addN es e) x)) := fun x hL => implLogAdd_any g 0 oc es e x hL.hi hL.at_ hL.fit hE.fit (hL.tab ht hz)
    have HNEW : Hid (addN es e = 1 → logB es = true ∧ entB e = true ∧ hasE es e = false ∧ nextB es e = true ∧ addL es e = es ++ [e]) := fun q => add_one q
    have hrl : (addL es e).length ≤ 1048576 := by have := addL_len es e; omega
    have al : Below w1.heap.size w1 (w1.alloc (.cells #[.int .i64 e.who, .int .i64 e.seq, .int .i64 e.op.kind, .int .i64 e.op.id, .int .i64 e.op.up, .int .i64 e.op.at_, .string e.op.txt] 42)) := (Below.refl _ _).alloc (Nat.le_refl _) _
    have L2 := L1.below al
    have X2 := EBx.new w1 e
    have HFE := Lib.hid hE.fit
    have HFL := Lib.hid L1.fit
    have hel := L1.len
    generalize addL es e = res at *
    generalize addN es e = an at *
    clear L1 al hE
    go_upto_region 4 with fail
    generalize w1.alloc (.cells #[.int .i64 e.who, .int .i64 e.seq, .int .i64 e.op.kind, .int .i64 e.op.id, .int .i64 e.op.up, .int .i64 e.op.at_, .string e.op.txt] 42) = w2 at *
    generalize w1.heap.size = eb at *
    obtain ⟨x0, x1, x2, x3, x4, x5, x6⟩ := X2.cells
    go_wp2_with fail
    refine (HSA.out w2 L2).mono ?_
    rintro _ w3 ⟨wa, wk, rfl, own3, hb3⟩
    have L3 := L2.below hb3
    have X3 := X2.below hb3 X2.lt
    have W3 := entsAt_own own3
    clear L2 X2 own3 hb3 HSA x0 x1 x2 x3 x4 x5 x6
    obtain ⟨x0, x1, x2, x3, x4, x5, x6⟩ := X3.cells
    go_wp2_with fail
    refine (HIA.out w3 L3).mono ?_
    rintro _ w4 ⟨xa, xk, rfl, own4, hb4⟩
    have L4 := L3.below hb4
    have X4 := X3.below hb4 X3.lt
    have W4 := (W3.below hb4).mono hb4.size
    have Y4 := entsAt_own own4
    clear L3 X3 W3 own4 hb4 HIA x0 x1 x2 x3 x4 x5 x6
    go_wp2_with fail
    refine (lpLog_same w4.heap.size _ _ _ _ res w4 (Nat.le_refl _) Y4 W4 hrl).mono ?_
    rintro _ w5 ⟨rfl, hb5⟩
    have L5 := L4.below hb5
    have X5 := X4.below hb5 X4.lt
    have W5 := (W4.below hb5).mono hb5.size
    have Y5 := (Y4.below hb5).mono hb5.size
    clear L4 X4 W4 Y4 hb5
    by_cases hn : an = 1
    · obtain ⟨hlg, hen, hha, hnx, hre⟩ := HNEW.out hn
      subst hre
      subst hn
      have HLG := Lib.hid hlg
      have HEN := Lib.hid hen
      have HNX := Lib.hid hnx
      clear HNEW hlg hen hha hnx W5
      have hle : (es ++ [e]).length = es.length + 1 := by simp
      have HAG : Hid (∀ (x : World) (b6 o6 : Nat), b6 < x.heap.size → EntsAt x.heap.size x (some ⟨b6, o6, none⟩) (es ++ [e]) → Tab x → Calls Tryd.prog 31 #[.slice (some ⟨b6, o6, none⟩) (es.length + 1) xk, .agg #[.int .i64 e.who, .int .i64 e.seq, .int .i64 e.op.kind, .int .i64 e.op.id, .int .i64 e.op.up, .int .i64 e.op.at_, .string e.op.txt]] x (RetL (es ++ [e]) 0 x)) := fun x b6 o6 h1 h2 h3 => by
        have q := implLogAdd_any b6 o6 xk (es ++ [e]) e x h1 h2 (snoc_fit HFL.out (by omega) HFE.out) HFE.out h3
        rw [hle] at q
        have q2 := add_again HLG.out HEN.out HNX.out
        refine q.mono fun r w' hq => ?_
        unfold RetAdd at hq
        rw [q2.1, q2.2] at hq
        exact hq
      have HSX : Hid (∀ (x : World) (q : Int) (xa' : Option Addr), I64 q → EntsAt x.heap.size x xa' (es ++ [e]) → Tab x → Calls Tryd.prog 35 #[.slice xa' (es.length + 1) xk, .int .i64 q] x (RetBelow (.int .i64 (lseqI es q + (if q = e.who then 1 else 0))) x)) := fun x q xa' h1 h2 h3 => by
        have r := implLogSeq_any x.heap.size xa' xk (es ++ [e]) q x (Nat.le_refl _) h2 (snoc_fit HFL.out (by omega) HFE.out) h3 h1
        rw [hle, seq_more HLG.out HEN.out HNX.out] at r; exact r
      have HSL : Hid (∀ (x : World) (q : Int), I64 q → Logs w x g oc es → Calls Tryd.prog 35 #[.slice (some ⟨g, 0, none⟩) es.length oc, .int .i64 q] x (RetBelow (.int .i64 (lseqI es q)) x)) := fun x q hq hL => implLogSeq_any x.heap.size _ _ _ q x (Nat.le_refl _) hL.at_ hL.fit (hL.tab ht hz) hq
      have HBD : Hid (∀ q, 0 ≤ lseqI es q ∧ lseqI es q ≤ 40) := fun q => by
        unfold lseqI; rw [HLG.out, if_pos rfl]
        have := cntTo_le es q es.length
        omega
      have HLEN := Lib.hid hle
      obtain ⟨bx, ox, rfl, hbx, _⟩ := Y5.at_ (i := 0) (by simp)
      rw [hle] at hrl
      obtain ⟨x0, x1, x2, x3, x4, x5, x6⟩ := X5.cells
      rw [hle]
      clear hle
      go_wp2_with fail
      refine (HAG.out w5 bx ox hbx Y5 (L5.tab ht hz)).mono ?_
      rintro _ w6 ⟨ya, yk, rfl, own6, hb6⟩
      have L6 := L5.below hb6
      have X6 := X5.below hb6 X5.lt
      have Y6 := (Y5.below hb6).mono hb6.size
      have Z6 := entsAt_own own6
      clear L5 X5 Y5 own6 hb6 x0 x1 x2 x3 x4 x5 x6 HAG
      rw [HLEN.out]
      go_wp2_with fail
      go_loopw [11] (fun t wr => ∃ k : Nat, 1 ≤ k ∧ k ≤ 4 ∧ t = .int .i64 k ∧ Logs w wr g oc es ∧ EBx wr eb e ∧ EntsAt wr.heap.size wr (some ⟨bx, ox, none⟩) (es ++ [e]) ∧ EntsAt wr.heap.size wr ya (es ++ [e])) (fun t _ => 4 - (intOf t).toNat)
      case atStart => exact ⟨1, by omega, by omega, rfl, L6, X6, Y6, Z6⟩
      case round =>
        obtain ⟨k, k1, k4, rfl, L7, X7, Y7, Z7⟩ := hrel
        clear L6 X6 Y6 Z6
        by_cases hk : k ≤ 3
        · have i3 : (k : Int) ≤ 3 := by omega
          obtain ⟨q0, q1⟩ := HBD.out (k : Int)
          obtain ⟨x0, x1, x2, x3, x4, x5, x6⟩ := X7.cells
          have hIk : I64 (k : Int) := ⟨by omega, by omega⟩
          have HX := Lib.hid (HSX.out wr (k : Int) (some ⟨bx, ox, none⟩) hIk Y7 (L7.tab ht hz))
          by_cases hw : (k : Int) = e.who
          · have hwb : ((k : Int) == e.who) = true := by simpa using hw
            rw [if_pos hw] at HX
            clear hw
            go_wp2_with fail
            refine HX.out.mono ?_
            rintro _ w8 ⟨rfl, hb8⟩
            have L8 := L7.below hb8
            have X8 := X7.below hb8 X7.lt
            have Y8 := (Y7.below hb8).mono hb8.size
            have Z8 := (Z7.below hb8).mono hb8.size
            clear L7 X7 Y7 Z7 hb8 x0 x1 x2 x3 x4 x5 x6 HX
            go_wp2_with fail
            refine (HSL.out w8 (k : Int) hIk L8).mono ?_
            rintro _ w9 ⟨rfl, hb9⟩
            have L9 := L8.below hb9
            have X9 := X8.below hb9 X8.lt
            have Y9 := (Y8.below hb9).mono hb9.size
            have Z9 := (Z8.below hb9).mono hb9.size
            clear L8 X8 Y8 Z8 hb9
            generalize lseqI es (k : Int) = sq at *
            go_wp2
            go_roundw
            case rel => exact ⟨k + 1, by omega, by omega, by go_num, L9, X9, Y9, Z9⟩
            case measure => simp [intOf]; omega
          · have hwb : ((k : Int) == e.who) = false := by simpa using hw
            rw [if_neg hw] at HX
            clear hw
            go_wp2_with fail
            refine HX.out.mono ?_
            rintro _ w8 ⟨rfl, hb8⟩
            have L8 := L7.below hb8
            have X8 := X7.below hb8 X7.lt
            have Y8 := (Y7.below hb8).mono hb8.size
            have Z8 := (Z7.below hb8).mono hb8.size
            clear L7 X7 Y7 Z7 hb8 x0 x1 x2 x3 x4 x5 x6 HX
            go_wp2_with fail
            refine (HSL.out w8 (k : Int) hIk L8).mono ?_
            rintro _ w9 ⟨rfl, hb9⟩
            have L9 := L8.below hb9
            have X9 := X8.below hb9 X8.lt
            have Y9 := (Y8.below hb9).mono hb9.size
            have Z9 := (Z8.below hb9).mono hb9.size
            clear L8 X8 Y8 Z8 hb9
            generalize lseqI es (k : Int) = sq at *
            go_wp2
            go_roundw
            case rel => exact ⟨k + 1, by omega, by omega, by go_num, L9, X9, Y9, Z9⟩
            case measure => simp [intOf]; omega
        · have i3 : ¬ (k : Int) ≤ 3 := by omega
          have HLP := Lib.hid (lpLog_same wr.heap.size ya (some ⟨bx, ox, none⟩) yk xk (es ++ [e]) wr (Nat.le_refl _) Z7 Y7 (by rw [HLEN.out]; exact hrl))
          rw [HLEN.out] at HLP
          go_wp2_with fail
          refine HLP.out.mono ?_
          rintro _ w8 ⟨rfl, hb8⟩
          have L8 := L7.below hb8
          go_wp2
          go_ret
          exact ⟨rfl, L8.low⟩
    · have hnb : (an != 1) = true := by simpa using hn
      clear HNEW
      go_wp2_with fail
      refine (lpLog_same w5.heap.size _ _ _ _ res w5 (Nat.le_refl _) Y5 W5 hrl).mono ?_
      rintro _ w6 ⟨rfl, hb6⟩
      have L6 := L5.below hb6
      go_wp2
      go_ret
      exact ⟨rfl, L6.low⟩
  · have i0 : ¬ (len : Int) ≤ 1048576 := by omega
    go_enter Tryd.func8, Tryd.ntmps8
    go_wp2
    go_ret
    exact ⟨rfl, Below.refl _ _⟩
end Go.Proofs.YtcaoojceeppibaaDoor
