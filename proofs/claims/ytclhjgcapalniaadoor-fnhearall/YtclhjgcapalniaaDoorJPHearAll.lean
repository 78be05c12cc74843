/-
  The walk of the law FnHearAll out of the contracts. Conditions: the arguments read as bytes; the table 'creators' holds what its initialiser lays.
-/
import Derived.Test.YtclhjgcapalniaaDoorGR
import Derived.Test.YtclhjgcapalniaaDoorGG
import Derived.Test.YtclhjgcapalniaaDoorJLpRows
import Derived.Test.YtclhjgcapalniaaDoorJPLogSeq
import Derived.Test.YtclhjgcapalniaaDoorJPClientNew
import Derived.Test.YtclhjgcapalniaaDoorJCliI4
import Derived.Test.YtclhjgcapalniaaDoorJCliM2
namespace Go.Proofs.YtclhjgcapalniaaDoor
open Go.ChangeShapes Go.WideShapes Go.ChangeAt Go.RowKit Go.Joins

set_option maxRecDepth 100000 in
set_option maxHeartbeats 4000000 in
theorem fnHearAll_walk (w : World) (ht : Tab w) (a : Option Addr) (len cap : Nat) (hb : Bytes w a len cap) (a' : Option Addr) (len' cap' : Nat) (_hb' : Bytes w a' len' cap') :
    Calls Tryd.prog 5 #[.slice a len cap, .slice a' len' cap'] w fun e w' => e = .returned (.bool true) ∧ Below w.heap.size w w' := by
  have hz := ht.pos
  by_cases hlen : len ≤ 1048576
  · have i0 : (len : Int) ≤ 1048576 := by omega
    by_cases hlen' : len' ≤ 1048576
    · have i1 : (len' : Int) ≤ 1048576 := by omega
      have HD := Lib.hid (drawLogTree_any a len cap w hb)
      clear hb
      obtain ⟨m3, hm3⟩ : ∃ m : Nat, (len' : Int) % 3 = (m : Int) := Int.eq_ofNat_of_zero_le (Int.emod_nonneg _ (by omega))
      have hm3' : m3 < 3 := by have := Int.emod_lt_of_pos (len' : Int) (show (0 : Int) < 3 by omega); omega
      go_enter Tryd.func5, Tryd.ntmps5
      go_wp2_with fail
      refine HD.out.mono ?_
      rintro _ w1 ⟨g, oc, es, rfl, L1⟩
      have HI : Hid (∀ (x : World), Logs w x g oc es → Calls Tryd.prog 23 #[.slice (some ⟨g, 0, none⟩) es.length oc] x (RetOwn (ltree es) x)) := fun x hL => implLogTree_any x.heap.size _ _ _ x (Nat.le_refl _) hL.at_ hL.fit (hL.tab ht hz)
      have HS : Hid (∀ (x : World), Logs w x g oc es → Calls Tryd.prog 25 #[.slice (some ⟨g, 0, none⟩) es.length oc] x (RetOwn (ltree es) x)) := fun x hL => specLogTree_any x.heap.size _ _ _ x (Nat.le_refl _) hL.at_ hL.fit hL.cap.1 hL.cap.2
      have HO : Hid (∀ (x : World), Logs w x g oc es → Calls Tryd.prog 26 #[.slice (some ⟨g, 0, none⟩) es.length oc] x (RetBelow (.bool (logB es)) x)) := fun x hL => specLogOk_any x.heap.size _ _ _ x (Nat.le_refl _) hL.at_ hL.fit hL.cap.1 hL.cap.2
      have HQ : Hid (∀ (x : World) (q : Int), I64 q → Logs w x g oc es → Calls Tryd.prog 29 #[.slice (some ⟨g, 0, none⟩) es.length oc, .int .i64 q] x (RetBelow (.int .i64 (lseqI es q)) x)) := fun x q hq hL => implLogSeq_any x.heap.size _ _ _ q x (Nat.le_refl _) hL.at_ hL.fit (hL.tab ht hz) hq
      have hel := L1.len
      have hfitE := Lib.hid L1.fit
      have hrl := ltree_len es
      have hrl' : (ltree es).length ≤ 1048576 := by omega
      have HTR : Hid (logB es = true → treeB (ltree es) = true) := fun hlg => (ltree_ok hlg).2
      have HLS : Hid (∀ q, logB es = true → lseqI es q = (cntTo es q es.length : Int)) := fun q h => by unfold lseqI; rw [h]; rfl
      have HHA : Hid (∀ who : Int, cliB ⟨who, 0, r3, [], 0, 0⟩ = true → logB es = true → (0 < cntTo es who es.length → cliHear ⟨who, 0, r3, [], 0, 0⟩ 0 es = ⟨who, 0, r3, [], 0, 0⟩ ∧ cliHearB ⟨who, 0, r3, [], 0, 0⟩ 0 es = false) ∧ (cntTo es who es.length = 0 → cliHear ⟨who, 0, r3, [], 0, 0⟩ 0 es = ⟨who, es.length, ltree es, [], 0, 0⟩ ∧ cliHearB ⟨who, 0, r3, [], 0, 0⟩ 0 es = true)) := fun who h1 h2 => hear_all h1 h2
      generalize ltree es = res at *
      go_wp2_with fail
      refine (HI.out w1 L1).mono ?_
      rintro _ w2 ⟨ta, tc, rfl, own2, _, hb2⟩
      have L2 := L1.below hb2
      have T2 := rowsAt_own own2
      clear L1 hb2 own2
      go_wp2_with fail
      refine (HS.out w2 L2).mono ?_
      rintro _ w3 ⟨sa, sc, rfl, own3, _, hb3⟩
      have L3 := L2.below hb3
      have T3 := (T2.below hb3).mono hb3.size
      have S3 := rowsAt_own own3
      clear L2 hb3 own3 T2
      go_wp2_with fail
      refine (lpRows_same w3.heap.size _ _ _ _ res w3 (Nat.le_refl _) T3 S3 hrl').mono ?_
      rintro _ w4 ⟨rfl, hb4⟩
      have L4 := L3.below hb4
      have T4 := (T3.below hb4).mono hb4.size
      clear L3 hb4 T3 S3
      go_wp2_with fail
      refine (HO.out w4 L4).mono ?_
      rintro _ w5 ⟨rfl, hb5⟩
      have L5 := L4.below hb5
      have T5 := (T4.below hb5).mono hb5.size
      clear L4 hb5 T4 HO
      cases hlg : logB es
      · go_wp2_with fail
        refine (HS.out w5 L5).mono ?_
        rintro _ w6 ⟨sa, sc, rfl, own6, _, hb6⟩
        have L6 := L5.below hb6
        have T6 := (T5.below hb6).mono hb6.size
        have S6 := rowsAt_own own6
        clear L5 T5 own6 hb6
        go_wp2_with fail
        refine (lpRows_same w6.heap.size _ _ _ _ res w6 (Nat.le_refl _) T6 S6 hrl').mono ?_
        rintro _ w7 ⟨rfl, hb7⟩
        have L7 := L6.below hb7
        go_wp2
        go_ret
        exact ⟨rfl, L7.low⟩
      · have HTR' := Lib.hid (HTR.out hlg)
        have HW : Hid (inB (1 + (m3 : Int)) 1 3 = true) := (inB_iff _ _ _).2 (by omega)
        have HC0 := Lib.hid (new_is HW.out)
        have HCK := Lib.hid (new_ok HW.out)
        have HH := Lib.hid (HHA.out (1 + (m3 : Int)) (by rw [← HC0.out]; exact HCK.out.1) hlg)
        have HLQ := Lib.hid (HLS.out (1 + (m3 : Int)) hlg)
        have hIw : I64 (1 + (m3 : Int)) := ⟨by omega, by omega⟩
        have HFT : Hid (CliFit ⟨1 + (m3 : Int), 0, r3, [], 0, 0⟩) := ⟨hIw, i64_zero, i64_zero, i64_zero, tree_fits tree_r3, ⟨by show (0 : Nat) ≤ 1048576; decide, fun i hi => by simp at hi⟩⟩
        have hw1 : 1 ≤ 1 + (m3 : Int) := by omega
        have hw3 : 1 + (m3 : Int) ≤ 3 := by omega
        clear hlg HS HI HTR HLS HHA
        go_upto_region 8 with fail
        generalize hwho : 1 + (m3 : Int) = who at *
        clear hwho
        have HN := Lib.hid (show ∀ x : World, Calls Tryd.prog 27 #[.int .i64 who] x (RetCliB ⟨who, 0, r3, [], 0, 0⟩ false true x) from fun x => by have q := implClientNew_any who x; rw [HC0.out, HW.out] at q; exact q)
        have HOKC : Hid (cliB ⟨who, 0, r3, [], 0, 0⟩ = true) := by unfold Hid; rw [← HC0.out]; exact HCK.out.1
        have hcl : (⟨who, 0, r3, [], 0, 0⟩ : CliD).base.length ≤ 3 ∧ (⟨who, 0, r3, [], 0, 0⟩ : CliD).wait.length ≤ 3 := ⟨Nat.le_refl _, by show 0 ≤ 3; omega⟩
        clear HC0 HCK HW
        generalize hcd : (⟨who, 0, r3, [], 0, 0⟩ : CliD) = c at *
        clear hcd
        obtain ⟨hcl1, hcl2⟩ := hcl
        go_wp2_with fail
        refine (HN.out w5).mono ?_
        rintro _ w6 ⟨ba, bc, wa, wc, rfl, V6, _, b6⟩
        have L6 := L5.below b6
        have T6 := (T5.below b6).mono b6.size
        have al := (Below.refl w6.heap.size w6).alloc (Nat.le_refl _) (.cells #[.int .i64 c.who, .int .i64 c.seen, .slice ba c.base.length bc, .slice wa c.wait.length wc, .int .i64 c.done, .int .i64 c.made] 51)
        have X7 := Bx.new w6 51 #[.int .i64 c.who, .int .i64 c.seen, .slice ba c.base.length bc, .slice wa c.wait.length wc, .int .i64 c.done, .int .i64 c.made]
        have L7 := L6.below al
        have T7 := (T6.below al).mono al.size
        have V7 := V6.below al (Nat.le_refl _)
        clear L5 T5 b6 L6 T6 V6 al HN
        go_upto_region 9 with fail
        generalize w6.alloc (.cells #[.int .i64 c.who, .int .i64 c.seen, .slice ba c.base.length bc, .slice wa c.wait.length wc, .int .i64 c.done, .int .i64 c.made] 51) = w7 at *
        generalize w6.heap.size = s6 at *
        obtain ⟨x0, x1, x2, x3, x4, x5⟩ := X7.cli
        have HHR := Lib.hid (implClientHear_any c ba wa bc wc 0 g 0 oc es w7 V7.at_ HFT.out L7.at_ L7.hi hfitE.out L7.cap.1 L7.cap.2 (L7.tab ht hz))
        go_wp2_with fail
        by_cases hcnt : 0 < cntTo es who es.length
        · have HX := Lib.hid (HH.out.1 hcnt)
          have HP : Hid (RetCliB (cliHear c 0 es) false (cliHearB c 0 es) w7 = RetCliB c false false w7) := by unfold Hid; rw [HX.out.1, HX.out.2]
          have hlq : 0 < lseqI es who := by rw [HLQ.out]; omega
          clear HH hcnt
          refine (HP.out ▸ HHR.out).mono ?_
          rintro _ w8 ⟨ya, yc, za, zc, rfl, V8, _, b8⟩
          have L8 := L7.below b8
          have T8 := (T7.below b8).mono b8.size
          have C8 := V7.below b8 (Nat.le_refl _)
          have X8 := X7.below b8 X7.lt
          have al := (Below.refl w8.heap.size w8).alloc (Nat.le_refl _) (.cells #[.int .i64 c.who, .int .i64 c.seen, .slice ya c.base.length yc, .slice za c.wait.length zc, .int .i64 c.done, .int .i64 c.made] 51)
          have Z9 := Bx.new w8 51 #[.int .i64 c.who, .int .i64 c.seen, .slice ya c.base.length yc, .slice za c.wait.length zc, .int .i64 c.done, .int .i64 c.made]
          have X9 := X8.below al X8.lt
          have L9 := L8.below al
          have T9 := (T8.below al).mono al.size
          have V9 := V8.below al (Nat.le_refl _)
          have C9 := C8.below al (Nat.le_refl _)
          clear L7 T7 V7 X7 b8 L8 T8 V8 C8 X8 al HP HHR x0 x1 x2 x3 x4 x5
          go_upto_region 10 with fail
          generalize w8.alloc (.cells #[.int .i64 c.who, .int .i64 c.seen, .slice ya c.base.length yc, .slice za c.wait.length zc, .int .i64 c.done, .int .i64 c.made] 51) = w9 at *
          generalize w8.heap.size = s8 at *
          have HLS := Lib.hid (HQ.out w9 who hIw L9)
          have HLQ2 := Lib.hid hlq
          clear hlq HQ
          go_wp2_with fail
          refine HLS.out.mono ?_
          rintro _ w10 ⟨rfl, b10⟩
          have La := L9.below b10
          have Ta := (T9.below b10).mono b10.size
          have Va := V9.below b10 (Nat.le_refl _)
          have Ca := C9.below b10 (Nat.le_refl _)
          have Xa := X9.below b10 X9.lt
          have Za := Z9.below b10 Z9.lt
          clear L9 T9 V9 C9 X9 Z9 b10 HLS
          obtain ⟨z0, z1, z2, z3, z4, z5⟩ := Za.cli
          obtain ⟨x0, x1, x2, x3, x4, x5⟩ := Xa.cli
          have hq0 := HLQ2.out
          go_wp2_with fail
          refine (lpClient_same c ya za ba wa yc zc bc wc w10 Va.at_ Ca.at_ (by omega) (by omega)).mono ?_
          rintro _ w11 ⟨rfl, b11⟩
          have Lb := La.below b11
          go_wp2
          go_ret
          exact ⟨rfl, Lb.low⟩
        · have hc0 : cntTo es who es.length = 0 := by omega
          have HX := Lib.hid (HH.out.2 hc0)
          have HP : Hid (RetCliB (cliHear c 0 es) false (cliHearB c 0 es) w7 = RetCliB ⟨who, es.length, res, [], 0, 0⟩ false true w7) := by unfold Hid; rw [HX.out.1, HX.out.2]
          have hlq : lseqI es who = 0 := by rw [HLQ.out, hc0]; rfl
          clear HH hcnt
          generalize hxx : (⟨who, es.length, res, [], 0, 0⟩ : CliD) = x at *
          have HXX := Lib.hid hxx
          clear hxx
          refine (HP.out ▸ HHR.out).mono ?_
          rintro _ w8 ⟨ya, yc, za, zc, rfl, V8, _, b8⟩
          have L8 := L7.below b8
          have T8 := (T7.below b8).mono b8.size
          have C8 := V7.below b8 (Nat.le_refl _)
          have X8 := X7.below b8 X7.lt
          have al := (Below.refl w8.heap.size w8).alloc (Nat.le_refl _) (.cells #[.int .i64 x.who, .int .i64 x.seen, .slice ya x.base.length yc, .slice za x.wait.length zc, .int .i64 x.done, .int .i64 x.made] 51)
          have Z9 := Bx.new w8 51 #[.int .i64 x.who, .int .i64 x.seen, .slice ya x.base.length yc, .slice za x.wait.length zc, .int .i64 x.done, .int .i64 x.made]
          have X9 := X8.below al X8.lt
          have L9 := L8.below al
          have T9 := (T8.below al).mono al.size
          have V9 := V8.below al (Nat.le_refl _)
          have C9 := C8.below al (Nat.le_refl _)
          clear L7 T7 V7 X7 b8 L8 T8 V8 C8 X8 al HP HHR x0 x1 x2 x3 x4 x5
          go_upto_region 10 with fail
          generalize w8.alloc (.cells #[.int .i64 x.who, .int .i64 x.seen, .slice ya x.base.length yc, .slice za x.wait.length zc, .int .i64 x.done, .int .i64 x.made] 51) = w9 at *
          generalize w8.heap.size = s8 at *
          have HLS := Lib.hid (HQ.out w9 who hIw L9)
          have HLQ2 := Lib.hid hlq
          clear hlq HQ
          go_wp2_with fail
          refine HLS.out.mono ?_
          rintro _ w10 ⟨rfl, b10⟩
          have La := L9.below b10
          have Ta := (T9.below b10).mono b10.size
          have Va := V9.below b10 (Nat.le_refl _)
          have Ca := C9.below b10 (Nat.le_refl _)
          have Xa := X9.below b10 X9.lt
          have Za := Z9.below b10 Z9.lt
          clear L9 T9 V9 C9 X9 Z9 b10 HLS
          obtain ⟨z0, z1, z2, z3, z4, z5⟩ := Za.cli
          obtain ⟨x0, x1, x2, x3, x4, x5⟩ := Xa.cli
          have hq0 := HLQ2.out
          have hx1 : x.base = res := by rw [← HXX.out]
          have hx2 : x.seen = es.length := by rw [← HXX.out]
          rw [hx1] at z2
          rw [hx2] at z1
          have Tx : RowsAt w10.heap.size w10 ya res := by rw [← hx1]; exact Va.at_.rows
          clear hx1 hx2
          go_wp2_with fail
          refine (lpRows_same w10.heap.size _ _ _ _ res w10 (Nat.le_refl _) Tx Ta hrl').mono ?_
          rintro _ w11 ⟨rfl, b11⟩
          have Lb := La.below b11
          have Zb := Za.below b11 Za.lt
          have hx2 : x.seen = es.length := by rw [← HXX.out]
          have z1' : w11.cell? ⟨s8, 1, none⟩ = some (.int .i64 es.length) := by rw [← hx2]; exact Zb.cell 1 rfl
          clear hx2 hq0
          go_wp2
          go_ret
          exact ⟨rfl, Lb.low⟩
    · have i1 : ¬ (len' : Int) ≤ 1048576 := by omega
      have i2 : (1048576 : Int) < (len' : Int) := by omega
      go_enter Tryd.func5, Tryd.ntmps5
      go_wp2
      go_ret
      exact ⟨rfl, Below.refl _ _⟩
  · have i0 : ¬ (len : Int) ≤ 1048576 := by omega
    have i1 : (1048576 : Int) < (len : Int) := by omega
    go_enter Tryd.func5, Tryd.ntmps5
    go_wp2
    go_ret
    exact ⟨rfl, Below.refl _ _⟩
end Go.Proofs.YtclhjgcapalniaaDoor
