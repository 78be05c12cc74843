/-
  The walk of the law FnHear out of the contracts. Conditions: the argument reads as bytes; the table 'creators' holds what its initialiser lays.
-/
import Derived.Test.YtgdopdhiloljoaaDoorJPServerForm
import Derived.Test.YtgdopdhiloljoaaDoorJDSrv3
namespace Go.Proofs.YtgdopdhiloljoaaDoor
open Go.ChangeShapes Go.WideShapes Go.ChangeAt Go.RowKit Go.Joins

theorem hear_false {s : SrvD} {e : EntD} (h : hearOk s e = true) (hb : hearB s e = false) : hearS s e = s ∧ (s.up && (addN s.log e == 1)) = false := by
  have q : (s.up && (addN s.log e == 1)) = false := by
    unfold hearB at hb; rw [h] at hb; simpa using hb
  exact ⟨(hear_same h q).1, q⟩
theorem hear_len (es : List EntD) (sf : Int) (up : Bool) (e : EntD) (hl : es.length ≤ 40) : (hearS ⟨es, sf, up⟩ e).log.length ≤ 1048576 := by
  cases h : hearOk ⟨es, sf, up⟩ e
  · rw [(hear_no h).1]; decide
  · rw [(hear_new h).1]
    simp only []
    have := hL_len up es e
    omega
theorem fit_snoc {es : List EntD} {e : EntD} (h : EntsFit es) (hl : es.length ≤ 40) (he : EFit e) : EntsFit (es ++ [e]) := by
  refine ⟨by simp; omega, fun i hi => ?_⟩
  simp at hi
  by_cases q : i < es.length
  · rw [eat_app_left q]; exact h.2 i q
  · obtain rfl : i = es.length := by omega
    rw [eat_app_last]; exact he
def RetLA (AL : List EntD) (an : Int) (w : World) (r : Ending) (w' : World) : Prop := ∃ a c, r = .returned (.tuple #[.slice a AL.length c, .int .i64 an]) ∧ EntsAt w'.heap.size w' a AL ∧ Below w.heap.size w w'
theorem retLA_of {es : List EntD} {e : EntD} {AL : List EntD} {an : Int} (h1 : AL = addL es e) (h2 : an = addN es e) {w : World} {r : Ending} {w' : World} (h : RetAdd es e w r w') : RetLA AL an w r w' := by
  subst h1 h2
  obtain ⟨a, c, rfl, own, hb⟩ := h
  exact ⟨a, c, rfl, entsAt_own own, hb⟩
set_option maxRecDepth 100000 in
set_option maxHeartbeats 8000000 in
theorem fnHear_walk (w : World) (ht : Tab w) (a : Option Addr) (len cap : Nat) (hb : Bytes w a len cap) :
    Calls Tryd.prog 4 #[.slice a len cap] w fun e w' => e = .returned (.bool true) ∧ Below w.heap.size w w' := by
  by_cases hlen : len ≤ 1048576
  · have i0 : (len : Int) ≤ 1048576 := by omega
    have HD := Lib.hid (drawServerHear_any a len cap w hb)
    clear hb
    go_enter Tryd.func4, Tryd.ntmps4
    go_wp2_with fail
    refine HD.out.mono ?_
    rintro _ w1 ⟨g, oc, es, sf, up, e, rfl, hsf, hes, L1⟩
    clear HD
    have HFE := Lib.hid hes.fit
    have HS : Hid (∀ x : World, Logs w x g oc es → Calls Tryd.prog 20 #[.agg #[.slice (some ⟨g, 0, none⟩) es.length oc, .int .i64 sf, .bool up], .agg #[.int .i64 e.who, .int .i64 e.seq, .int .i64 e.op.kind, .int .i64 e.op.id, .int .i64 e.op.up, .int .i64 e.op.at_, .string e.op.txt]] x (RetHr (hearS ⟨es, sf, up⟩ e) (hearB ⟨es, sf, up⟩ e) x)) := fun x hL => specServerHear_any g 0 oc es sf up e x hL.hi hL.at_ hL.fit HFE.out hL.cap.1 hL.cap.2
    have HI : Hid (∀ x : World, Logs w x g oc es → Calls Tryd.prog 21 #[.agg #[.slice (some ⟨g, 0, none⟩) es.length oc, .int .i64 sf, .bool up], .agg #[.int .i64 e.who, .int .i64 e.seq, .int .i64 e.op.kind, .int .i64 e.op.id, .int .i64 e.op.up, .int .i64 e.op.at_, .string e.op.txt]] x (RetHr (hearS ⟨es, sf, up⟩ e) (hearB ⟨es, sf, up⟩ e) x)) := fun x hL => implServerHear_any g 0 oc es sf up e x hL.hi hL.at_ hL.fit (hL.tabS ht) HFE.out
    have HK : Hid (∀ x : World, Logs w x g oc es → Calls Tryd.prog 23 #[.agg #[.slice (some ⟨g, 0, none⟩) es.length oc, .int .i64 sf, .bool up]] x (RetBelow (.bool (srvB ⟨es, sf, up⟩)) x)) := fun x hL => specServerOk_any x.heap.size _ _ es sf up x (Nat.le_refl _) hL.at_ hL.fit hL.cap.1 hL.cap.2
    have HEO : Hid (∀ x : World, Calls Tryd.prog 24 #[.agg #[.int .i64 e.who, .int .i64 e.seq, .int .i64 e.op.kind, .int .i64 e.op.id, .int .i64 e.op.up, .int .i64 e.op.at_, .string e.op.txt]] x (RetBelow (.bool (entB e)) x)) := fun x => specEntryOk_any e x HFE.out
    obtain ⟨AL, hAL⟩ : ∃ r, r = addL es e := ⟨_, rfl⟩
    obtain ⟨an, han⟩ : ∃ r, r = addN es e := ⟨_, rfl⟩
    have HLA : Hid (∀ x : World, Logs w x g oc es → Calls Tryd.prog 25 #[.slice (some ⟨g, 0, none⟩) es.length oc, .agg #[.int .i64 e.who, .int .i64 e.seq, .int .i64 e.op.kind, .int .i64 e.op.id, .int .i64 e.op.up, .int .i64 e.op.at_, .string e.op.txt]] x (RetLA AL an x)) := fun x hL => (implLogAdd_any g 0 oc es e x hL.hi hL.at_ hL.fit HFE.out (hL.tabS ht)).mono fun _ _ q => retLA_of hAL han q
    have HAL := Lib.hid hAL
    have HAN := Lib.hid han
    clear hAL han
    have hel := L1.len
    have HFT := Lib.hid L1.fit
    have hrl : (hearS ⟨es, sf, up⟩ e).log.length ≤ 1048576 := hear_len es sf up e (by omega)
    have HRS := Lib.hid (rfl : hearS ⟨es, sf, up⟩ e = hearS ⟨es, sf, up⟩ e)
    obtain ⟨rs, hrs⟩ : ∃ r, r = hearS ⟨es, sf, up⟩ e := ⟨_, rfl⟩
    obtain ⟨tb, htb⟩ : ∃ r, r = hearB ⟨es, sf, up⟩ e := ⟨_, rfl⟩
    rw [← hrs] at hrl
    rw [← hrs, ← htb] at HS HI
    have HRE := Lib.hid hrs
    have HTB := Lib.hid htb
    clear hrs htb HRS hes
    have al : Below w1.heap.size w1 ((w1.alloc (.cells #[.slice (some ⟨g, 0, none⟩) es.length oc, .int .i64 sf, .bool up] 35)).alloc (.cells #[.int .i64 e.who, .int .i64 e.seq, .int .i64 e.op.kind, .int .i64 e.op.id, .int .i64 e.op.up, .int .i64 e.op.at_, .string e.op.txt] 39)) := ((Below.refl _ _).alloc (Nat.le_refl _) _).alloc (by simp) _
    have A2 := (Bx.new w1 35 #[.slice (some ⟨g, 0, none⟩) es.length oc, .int .i64 sf, .bool up]).alloc (.cells #[.int .i64 e.who, .int .i64 e.seq, .int .i64 e.op.kind, .int .i64 e.op.id, .int .i64 e.op.up, .int .i64 e.op.at_, .string e.op.txt] 39)
    have K2 := Bx.new (w1.alloc (.cells #[.slice (some ⟨g, 0, none⟩) es.length oc, .int .i64 sf, .bool up] 35)) 39 #[.int .i64 e.who, .int .i64 e.seq, .int .i64 e.op.kind, .int .i64 e.op.id, .int .i64 e.op.up, .int .i64 e.op.at_, .string e.op.txt]
    have hs1 : (w1.alloc (.cells #[.slice (some ⟨g, 0, none⟩) es.length oc, .int .i64 sf, .bool up] 35)).heap.size = w1.heap.size + 1 := by simp
    rw [hs1] at K2
    have L2 := L1.below al
    clear L1 al hs1
    go_upto_region 4 with fail
    generalize ((w1.alloc (.cells #[.slice (some ⟨g, 0, none⟩) es.length oc, .int .i64 sf, .bool up] 35)).alloc (.cells #[.int .i64 e.who, .int .i64 e.seq, .int .i64 e.op.kind, .int .i64 e.op.id, .int .i64 e.op.up, .int .i64 e.op.at_, .string e.op.txt] 39)) = w2 at *
    generalize w1.heap.size = bs at *
    obtain ⟨x0, x1, x2⟩ := A2.srv
    have e0 := K2.cell 0 rfl
    have e1 := K2.cell 1 rfl
    have e2 := K2.cell 2 rfl
    have e3 := K2.cell 3 rfl
    have e4 := K2.cell 4 rfl
    have e5 := K2.cell 5 rfl
    have e6 := K2.cell 6 rfl
    go_wp2_with fail
    refine (HS.out w2 L2).mono ?_
    rintro _ w3 ⟨wa, wk, rfl, V3, h3⟩
    have al := (Below.refl w3.heap.size w3).alloc (Nat.le_refl _) (.cells #[.slice wa rs.log.length wk, .int .i64 rs.safe, .bool rs.up] 35)
    have W4 := Bx.new w3 35 #[.slice wa rs.log.length wk, .int .i64 rs.safe, .bool rs.up]
    have A4 := (A2.below h3 A2.lt).below al (A2.below h3 A2.lt).lt
    have K4 := (K2.below h3 K2.lt).below al (K2.below h3 K2.lt).lt
    have L4 := (L2.below h3).below al
    have V4 := (V3.below al (Nat.le_refl _)).ents
    clear A2 K2 L2 V3 h3 al x0 x1 x2 e0 e1 e2 e3 e4 e5 e6 HS
    go_upto_region 5 with fail
    generalize w3.alloc (.cells #[.slice wa rs.log.length wk, .int .i64 rs.safe, .bool rs.up] 35) = w4 at *
    generalize w3.heap.size = bw at *
    obtain ⟨x0, x1, x2⟩ := A4.srv
    have e0 := K4.cell 0 rfl
    have e1 := K4.cell 1 rfl
    have e2 := K4.cell 2 rfl
    have e3 := K4.cell 3 rfl
    have e4 := K4.cell 4 rfl
    have e5 := K4.cell 5 rfl
    have e6 := K4.cell 6 rfl
    go_wp2_with fail
    refine (HI.out w4 L4).mono ?_
    rintro _ w5 ⟨xa, xc, rfl, G5, h5⟩
    have al := (Below.refl w5.heap.size w5).alloc (Nat.le_refl _) (.cells #[.slice xa rs.log.length xc, .int .i64 rs.safe, .bool rs.up] 35)
    have X6 := Bx.new w5 35 #[.slice xa rs.log.length xc, .int .i64 rs.safe, .bool rs.up]
    have A6 := (A4.below h5 A4.lt).below al (A4.below h5 A4.lt).lt
    have K6 := (K4.below h5 K4.lt).below al (K4.below h5 K4.lt).lt
    have W6 := (W4.below h5 W4.lt).below al (W4.below h5 W4.lt).lt
    have L6 := (L4.below h5).below al
    have V6 := (((V4.below h5).mono h5.size).below al).mono al.size
    have G6 := (G5.below al (Nat.le_refl _)).ents
    clear A4 K4 W4 L4 V4 G5 h5 al x0 x1 x2 e0 e1 e2 e3 e4 e5 e6 HI
    go_upto_region 6 with fail
    generalize w5.alloc (.cells #[.slice xa rs.log.length xc, .int .i64 rs.safe, .bool rs.up] 35) = w6 at *
    generalize w5.heap.size = bx at *
    obtain ⟨x0, x1, x2⟩ := X6.srv
    obtain ⟨y0, y1, y2⟩ := W6.srv
    go_wp2_with fail
    refine (lpServer_same _ _ _ _ _ rs.log rs.safe rs.up w6 (Nat.le_refl _) G6 V6 hrl).mono ?_
    rintro _ w7 ⟨rfl, h7⟩
    have X7 := X6.below h7 X6.lt
    have A7 := A6.below h7 A6.lt
    have K7 := K6.below h7 K6.lt
    have W7 := W6.below h7 W6.lt
    have L7 := L6.below h7
    have V7 := (V6.below h7).mono h7.size
    have G7 := (G6.below h7).mono h7.size
    clear X6 A6 K6 W6 L6 V6 G6 h7
    clear x0 x1 x2 y0 y1 y2
    obtain ⟨x0, x1, x2⟩ := A7.srv
    go_wp2_with fail
    refine (HK.out w7 L7).mono ?_
    rintro _ w8 ⟨rfl, h8⟩
    have X8 := X7.below h8 X7.lt
    have A8 := A7.below h8 A7.lt
    have K8 := K7.below h8 K7.lt
    have W8 := W7.below h8 W7.lt
    have L8 := L7.below h8
    have V8 := (V7.below h8).mono h8.size
    have G8 := (G7.below h8).mono h8.size
    clear X7 A7 K7 W7 L7 V7 G7 h8
    clear x0 x1 x2
    cases hsb : srvB ⟨es, sf, up⟩
    · obtain ⟨x0, x1, x2⟩ := X8.srv
      obtain ⟨y0, y1, y2⟩ := W8.srv
      clear HRE HTB
      cases tb
      · go_wp2_with fail
        refine (lpServer_same _ _ _ _ _ rs.log rs.safe rs.up w8 (Nat.le_refl _) G8 V8 hrl).mono ?_
        rintro _ w9 ⟨rfl, h9⟩
        have L9 := L8.below h9
        go_wp2
        go_ret
        exact ⟨rfl, L9.low⟩
      · go_wp2_with fail
        refine (lpServer_same _ _ _ _ _ rs.log rs.safe rs.up w8 (Nat.le_refl _) G8 V8 hrl).mono ?_
        rintro _ w9 ⟨rfl, h9⟩
        have L9 := L8.below h9
        go_wp2
        go_ret
        exact ⟨rfl, L9.low⟩
    · skip
      have e0 := K8.cell 0 rfl
      have e1 := K8.cell 1 rfl
      have e2 := K8.cell 2 rfl
      have e3 := K8.cell 3 rfl
      have e4 := K8.cell 4 rfl
      have e5 := K8.cell 5 rfl
      have e6 := K8.cell 6 rfl
      go_wp2_with fail
      refine (HEO.out w8).mono ?_
      rintro _ w9 ⟨rfl, h9⟩
      have X9 := X8.below h9 X8.lt
      have A9 := A8.below h9 A8.lt
      have K9 := K8.below h9 K8.lt
      have W9 := W8.below h9 W8.lt
      have L9 := L8.below h9
      have V9 := (V8.below h9).mono h9.size
      have G9 := (G8.below h9).mono h9.size
      clear X8 A8 K8 W8 L8 V8 G8 h9
      clear e0 e1 e2 e3 e4 e5 e6
      cases heb : entB e
      · obtain ⟨x0, x1, x2⟩ := X9.srv
        obtain ⟨y0, y1, y2⟩ := W9.srv
        clear HRE HTB
        cases tb
        · go_wp2_with fail
          refine (lpServer_same _ _ _ _ _ rs.log rs.safe rs.up w9 (Nat.le_refl _) G9 V9 hrl).mono ?_
          rintro _ w10 ⟨rfl, h10⟩
          have L10x := L9.below h10
          go_wp2
          go_ret
          exact ⟨rfl, L10x.low⟩
        · go_wp2_with fail
          refine (lpServer_same _ _ _ _ _ rs.log rs.safe rs.up w9 (Nat.le_refl _) G9 V9 hrl).mono ?_
          rintro _ w10 ⟨rfl, h10⟩
          have L10x := L9.below h10
          go_wp2
          go_ret
          exact ⟨rfl, L10x.low⟩
      · have HOK : Hid (hearOk ⟨es, sf, up⟩ e = true) := by unfold Hid hearOk; rw [hsb, heb]; rfl
        have HSB := Lib.hid hsb
        have HEB := Lib.hid heb
        clear hsb heb
        obtain ⟨x0, x1, x2⟩ := A9.srv
        have e0 := K9.cell 0 rfl
        have e1 := K9.cell 1 rfl
        have e2 := K9.cell 2 rfl
        have e3 := K9.cell 3 rfl
        have e4 := K9.cell 4 rfl
        have e5 := K9.cell 5 rfl
        have e6 := K9.cell 6 rfl
        go_wp2_with fail
        refine (HLA.out w9 L9).mono ?_
        rintro _ wa ⟨la, lc, rfl, N1, h10⟩
        have X10 := X9.below h10 X9.lt
        have A10 := A9.below h10 A9.lt
        have K10 := K9.below h10 K9.lt
        have W10 := W9.below h10 W9.lt
        have L10 := L9.below h10
        have V10 := (V9.below h10).mono h10.size
        have G10 := (G9.below h10).mono h10.size
        clear X9 A9 K9 W9 L9 V9 G9 h10
        clear x0 x1 x2 e0 e1 e2 e3 e4 e5 e6 HLA HK HEO
        cases tb
        · have hq := hear_false HOK.out HTB.out.symm
          have hrs := HRE.out.trans hq.1
          subst hrs
          have hq2 := hq.2
          simp only [] at hq2 X10 G10 hrl
          rw [← HAN.out] at hq2
          clear HRE HTB HOK hq HAL HAN
          obtain ⟨x0, x1, x2⟩ := X10.srv
          obtain ⟨y0, y1, y2⟩ := A10.srv
          go_wp2_with fail
          refine (lpServer_same _ _ _ _ _ es sf up wa (Nat.le_refl _) G10 L10.at_ hrl).mono ?_
          rintro _ wb ⟨rfl, h11⟩
          have L11 := L10.below h11
          have A11 := A10.below h11 A10.lt
          clear x0 x1 x2 y0 y1 y2
          obtain ⟨y0, y1, y2⟩ := A11.srv
          cases up
          · go_wp2
            go_ret
            exact ⟨rfl, L11.low⟩
          · have hne : (an == 1) = false := by simpa using hq2
            have hnb : (an != 1) = true := by rw [bne, hne]; rfl
            go_wp2
            go_ret
            exact ⟨rfl, L11.low⟩
        · obtain ⟨q1, q2, q3, q4, q5, q6⟩ := hear_is HTB.out.symm
          simp only [] at q3 q4 q5 q6
          have hrs := HRE.out.trans q6
          subst hrs
          subst q3
          have hal : AL = es ++ [e] := HAL.out.trans (add_is q5).2.2.2
          have han : an = 1 := HAN.out.trans q5
          subst hal
          subst han
          simp only [] at X10 G10 hrl
          have HSK : Hid (srvB ⟨es ++ [e], sf, true⟩ = true) := srv_snoc q1 q2 q4
          have HIO : Hid (∀ x : World, EntsAt x.heap.size x xa (es ++ [e]) → Tab x → Calls Tryd.prog 27 #[.agg #[.slice xa (es ++ [e]).length xc, .int .i64 sf, .bool true]] x (RetBelow (.bool true) x)) := fun x h1 h2 => by
            have q := implServerOk_any x.heap.size xa xc (es ++ [e]) sf true x (Nat.le_refl _) h1 (fit_snoc HFT.out (by omega) HFE.out) h2
            rw [HSK.out] at q; exact q
          clear HRE HTB HOK HAL HAN q1 q2 q4 q5 q6
          generalize es ++ [e] = LL at *
          obtain ⟨x0, x1, x2⟩ := X10.srv
          obtain ⟨y0, y1, y2⟩ := A10.srv
          go_wp2_with fail
          refine (lpLog_same _ _ _ _ _ LL wa (Nat.le_refl _) G10 N1 hrl).mono ?_
          rintro _ wb ⟨rfl, h11⟩
          have L11 := L10.below h11
          have X11 := X10.below h11 X10.lt
          have A11 := A10.below h11 A10.lt
          have G11 := (G10.below h11).mono h11.size
          clear x0 x1 x2 y0 y1 y2
          obtain ⟨x0, x1, x2⟩ := X11.srv
          obtain ⟨y0, y1, y2⟩ := A11.srv
          go_wp2_with fail
          refine (HIO.out wb G11 (L11.tabS ht)).mono ?_
          rintro _ we ⟨rfl, h12⟩
          have L12 := L11.below h12
          go_wp2
          go_ret
          exact ⟨rfl, L12.low⟩
  · have i0 : ¬ (len : Int) ≤ 1048576 := by omega
    go_enter Tryd.func4, Tryd.ntmps4
    go_wp2
    go_ret
    exact ⟨rfl, Below.refl _ _⟩
end Go.Proofs.YtgdopdhiloljoaaDoor
