/-
  The walk of the law FnSyncNews out of the contracts. Conditions: the argument reads as bytes; the table 'creators' holds what its initialiser lays.
-/
import Derived.Test.YtgdopdhiloljoaaDoorJPServerForm
import Derived.Deep.RegionHeld3
namespace Go.Proofs.YtgdopdhiloljoaaDoor
open Go.ChangeShapes Go.WideShapes Go.ChangeAt Go.RowKit Go.Joins

set_option maxRecDepth 100000 in
set_option maxHeartbeats 8000000 in
theorem fnSyncNews_walk (w : World) (ht : Tab w) (a : Option Addr) (len cap : Nat) (hb : Bytes w a len cap) :
    Calls Tryd.prog 11 #[.slice a len cap] w fun e w' => e = .returned (.bool true) ∧ Below w.heap.size w w' := by
  by_cases hlen : len ≤ 1048576
  · have i0 : (len : Int) ≤ 1048576 := by omega
    have HD := Lib.hid (drawServerSync_any a len cap w hb)
    clear hb
    go_enter Tryd.func11, Tryd.ntmps11
    go_wp2_with fail
    refine HD.out.mono ?_
    rintro _ w1 ⟨g, oc, es, sf, up, rfl, hsf, L1⟩
    clear HD
    have HS : Hid (∀ x : World, Logs w x g oc es → Calls Tryd.prog 29 #[.agg #[.slice (some ⟨g, 0, none⟩) es.length oc, .int .i64 sf, .bool up]] x (RetSvB (syncS ⟨es, sf, up⟩) (srvB ⟨es, sf, up⟩) (syncB ⟨es, sf, up⟩) x)) := fun x hL => specServerSync_any g 0 oc es sf up x hL.hi hL.at_ hL.fit hL.cap.1 hL.cap.2
    have HI : Hid (∀ x : World, Logs w x g oc es → Calls Tryd.prog 30 #[.agg #[.slice (some ⟨g, 0, none⟩) es.length oc, .int .i64 sf, .bool up]] x (RetSvB (syncS ⟨es, sf, up⟩) (srvB ⟨es, sf, up⟩) (syncB ⟨es, sf, up⟩) x)) := fun x hL => implServerSync_any g 0 oc es sf up x hL.hi hL.at_ hL.fit (hL.tabS ht)
    have HYES : Hid (syncB ⟨es, sf, up⟩ = true → srvB ⟨es, sf, up⟩ = true ∧ up = true ∧ syncS ⟨es, sf, up⟩ = ⟨es, es.length, true⟩) := fun q => sync_is q
    have hel := L1.len
    have hoc := L1.cap
    have hrl : (syncS ⟨es, sf, up⟩).log.length ≤ 1048576 := by
      have : (syncS ⟨es, sf, up⟩).log.length ≤ es.length := by
        unfold syncS zsrv; split
        · split <;> exact Nat.le_refl _
        · simp
      omega
    generalize syncS ⟨es, sf, up⟩ = rs at *
    generalize syncB ⟨es, sf, up⟩ = tb at *
    have al := (Below.refl w1.heap.size w1).alloc (Nat.le_refl _) (.cells #[.slice (some ⟨g, 0, none⟩) es.length oc, .int .i64 sf, .bool up] 35)
    have A2 := Bx.new w1 35 #[.slice (some ⟨g, 0, none⟩) es.length oc, .int .i64 sf, .bool up]
    have L2 := L1.below al
    clear L1 al
    go_upto_region 4 with fail
    generalize w1.alloc (.cells #[.slice (some ⟨g, 0, none⟩) es.length oc, .int .i64 sf, .bool up] 35) = w2 at *
    generalize w1.heap.size = bs at *
    obtain ⟨x0, x1, x2⟩ := A2.srv
    go_wp2_with fail
    refine (HS.out w2 L2).mono ?_
    rintro _ w3 ⟨wa, wk, rfl, V3, _, h3⟩
    have al := (Below.refl w3.heap.size w3).alloc (Nat.le_refl _) (.cells #[.slice wa rs.log.length wk, .int .i64 rs.safe, .bool rs.up] 35)
    have W4 := Bx.new w3 35 #[.slice wa rs.log.length wk, .int .i64 rs.safe, .bool rs.up]
    have A4 := (A2.below h3 A2.lt).below al (A2.below h3 A2.lt).lt
    have L4 := (L2.below h3).below al
    have V4 := (V3.below al (Nat.le_refl _)).ents
    clear A2 L2 V3 h3 al x0 x1 x2 HS
    go_upto_region 5 with fail
    generalize w3.alloc (.cells #[.slice wa rs.log.length wk, .int .i64 rs.safe, .bool rs.up] 35) = w4 at *
    generalize w3.heap.size = bw at *
    obtain ⟨x0, x1, x2⟩ := A4.srv
    go_wp2_with fail
    refine (HI.out w4 L4).mono ?_
    rintro _ w5 ⟨xa, xc, rfl, G5, S5, h5⟩
    have al := (Below.refl w5.heap.size w5).alloc (Nat.le_refl _) (.cells #[.slice xa rs.log.length xc, .int .i64 rs.safe, .bool rs.up] 35)
    have X6 := Bx.new w5 35 #[.slice xa rs.log.length xc, .int .i64 rs.safe, .bool rs.up]
    have A6 := (A4.below h5 A4.lt).below al (A4.below h5 A4.lt).lt
    have W6 := (W4.below h5 W4.lt).below al (W4.below h5 W4.lt).lt
    have L6 := (L4.below h5).below al
    have V6 := (((V4.below h5).mono h5.size).below al).mono al.size
    have G6 := (G5.below al (Nat.le_refl _)).ents
    have S6 : Hid (srvB ⟨es, sf, up⟩ = true → ∃ g, xa = some ⟨g, 0, none⟩ ∧ OwnG w4.heap.size (w5.alloc (.cells #[.slice xa rs.log.length xc, .int .i64 rs.safe, .bool rs.up] 35)) g xc rs.log) := fun q => by
      obtain ⟨g', e', o'⟩ := S5 q
      exact ⟨g', e', o'.below al (Nat.le_refl _)⟩
    clear A4 W4 L4 V4 G5 S5 h5 al x0 x1 x2 HI
    go_upto_region 6 with fail
    generalize w5.alloc (.cells #[.slice xa rs.log.length xc, .int .i64 rs.safe, .bool rs.up] 35) = w6 at *
    generalize w5.heap.size = bx at *
    obtain ⟨x0, x1, x2⟩ := X6.srv
    obtain ⟨y0, y1, y2⟩ := W6.srv
    cases tb
    · go_wp2_with fail
      refine (lpServer_same _ _ _ _ _ rs.log rs.safe rs.up w6 (Nat.le_refl _) G6 V6 hrl).mono ?_
      rintro _ w7 ⟨rfl, h7⟩
      have X7 := X6.below h7 X6.lt
      have W7 := W6.below h7 W6.lt
      have L7 := L6.below h7
      have G7 := (G6.below h7).mono h7.size
      have V7 := (V6.below h7).mono h7.size
      clear X6 A6 W6 L6 G6 V6 S6 h7 x0 x1 x2 y0 y1 y2
      obtain ⟨x0, x1, x2⟩ := X7.srv
      obtain ⟨y0, y1, y2⟩ := W7.srv
      go_wp2_with fail
      refine (lpServer_same _ _ _ _ _ rs.log rs.safe rs.up w7 (Nat.le_refl _) G7 V7 hrl).mono ?_
      rintro _ w8 ⟨rfl, h8⟩
      have L8 := L7.below h8
      go_wp2
      go_ret
      exact ⟨rfl, L8.low⟩
    · go_wp2_with fail
      refine (lpServer_same _ _ _ _ _ rs.log rs.safe rs.up w6 (Nat.le_refl _) G6 V6 hrl).mono ?_
      rintro _ w7 ⟨rfl, h7⟩
      obtain ⟨hsb, rfl, rfl⟩ := HYES.out (by first | rfl | trivial)
      obtain ⟨gx, rfl, O6⟩ := S6.out hsb
      simp only [] at O6 X6 W6 G6 V6
      have X7 := X6.below h7 X6.lt
      have A7 := A6.below h7 A6.lt
      have L7 := L6.below h7
      have O7 := (O6.below h7 (Nat.le_refl _)).mono (Nat.zero_le _)
      have HLG := Lib.hid (srv_iff.1 hsb).1
      clear X6 A6 W6 L6 G6 V6 S6 O6 h7 x0 x1 x2 y0 y1 y2 HYES hsb hrl
      have hl20 : es.length ≤ 1048576 := by omega
      have HFT := Lib.hid L7.fit
      have HFU : Hid (fallS ⟨es, es.length, true⟩ 0 = ⟨es, es.length, true⟩) := fall_full HLG.out
      have HOKU : Hid (fallOk ⟨es, es.length, true⟩ 0 = true) := fallOk_is.2 ⟨srv_full HLG.out, by omega, by omega⟩
      have HFA : Hid (∀ x : World, OwnG 0 x gx xc es → Tab x → Calls Tryd.prog 31 #[.agg #[.slice (some ⟨gx, 0, none⟩) es.length xc, .int .i64 (es.length : Int), .bool true], .int .i64 0] x (RetSv ⟨es, es.length, true⟩ true x)) := fun x hO hT => by
        have q := implServerFall_any gx 0 xc es es.length true 0 x hO.hi hO.ents HFT.out hT
        rw [HFU.out, HOKU.out] at q; exact q
      have HN0 : Hid (∀ (x : World) (base gf fc : Nat), OwnG base x gf fc es → Tab x → Calls Tryd.prog 36 #[.agg #[.slice (some ⟨gf, 0, none⟩) es.length fc, .int .i64 (es.length : Int), .bool true], .int .i64 0] x (RetNw es x)) := fun x base gf fc hO hT => by
        have q := implServerNews_any gf 0 fc es es.length true 0 x hO.hi hO.ents HFT.out hT
        rw [news_all HLG.out] at q; exact q
      have HNE : Hid (∀ x : World, OwnG 0 x gx xc es → Tab x → Calls Tryd.prog 36 #[.agg #[.slice (some ⟨gx, 0, none⟩) es.length xc, .int .i64 (es.length : Int), .bool true], .int .i64 (es.length : Int)] x (RetNw [] x)) := fun x hO hT => by
        have q := implServerNews_any gx 0 xc es es.length true es.length x hO.hi hO.ents HFT.out hT
        rw [news_end HLG.out] at q; exact q
      have HB : Hid (∀ x : World, Below w7.heap.size w7 x → (fun x : World => x.cell? ⟨bx, 0, none⟩ = some (.slice (some ⟨gx, 0, none⟩) es.length xc) ∧ x.cell? ⟨bx, 1, none⟩ = some (.int .i64 (es.length : Int)) ∧ x.cell? ⟨bx, 2, none⟩ = some (.bool true) ∧ x.cell? ⟨bs, 0, none⟩ = some (.slice (some ⟨g, 0, none⟩) es.length oc) ∧ x.cell? ⟨bs, 1, none⟩ = some (.int .i64 sf) ∧ x.cell? ⟨bs, 2, none⟩ = some (.bool true)) x) := fun x hx => ⟨(X7.below hx X7.lt).cell 0 rfl, (X7.below hx X7.lt).cell 1 rfl, (X7.below hx X7.lt).cell 2 rfl, (A7.below hx A7.lt).cell 0 rfl, (A7.below hx A7.lt).cell 1 rfl, (A7.below hx A7.lt).cell 2 rfl⟩
      have cd : Below w7.heap.size w7 w7.drew := (Below.refl _ _).drew
      obtain ⟨x0, x1, x2, x3, x4, x5⟩ := HB.out w7 (Below.refl _ _)
      obtain ⟨y0, y1, y2, y3, y4, y5⟩ := HB.out w7.drew cd
      have Ld : Logs w w7.drew g oc es := L7.below cd
      have Od : OwnG 0 w7.drew gx xc es := O7.below cd (Nat.le_refl _)
      have td := Ld.tabS ht
      clear X7 A7 L7 O7
      go_wp2_with fail
      go_region_held3 (fun x : World => x.cell? ⟨bx, 0, none⟩ = some (.slice (some ⟨gx, 0, none⟩) es.length xc) ∧ x.cell? ⟨bx, 1, none⟩ = some (.int .i64 (es.length : Int)) ∧ x.cell? ⟨bx, 2, none⟩ = some (.bool true) ∧ x.cell? ⟨bs, 0, none⟩ = some (.slice (some ⟨g, 0, none⟩) es.length oc) ∧ x.cell? ⟨bs, 1, none⟩ = some (.int .i64 sf) ∧ x.cell? ⟨bs, 2, none⟩ = some (.bool true)) (first | (with_reducible exact ⟨x0, x1, x2, x3, x4, x5⟩) | (with_reducible exact ⟨y0, y1, y2, y3, y4, y5⟩) | (with_reducible exact ⟨n0, n1, n2, n3, n4, n5⟩) | (with_reducible exact ⟨p0, p1, p2, p3, p4, p5⟩) | (with_reducible exact ⟨r0, r1, r2, r3, r4, r5⟩) | (with_reducible exact ⟨s0, s1, s2, s3, s4, s5⟩) | (with_reducible exact ⟨q0, q1, q2, q3, q4, q5⟩) | (with_reducible exact ⟨u0, u1, u2, u3, u4, u5⟩)) (first
        | (go_at_call 36; (with_reducible refine (HN0.out _ _ _ _ Od td).mono ?_); rintro _ w8 ⟨na, nc, rfl, G8, h8⟩; have L8 := Ld.below h8; have O8 := Od.below h8 (Nat.le_refl _); have c8 := cd.trans h8; obtain ⟨n0, n1, n2, n3, n4, n5⟩ := HB.out w8 c8)
        | (go_at_call 26; (with_reducible refine (lpLog_same _ _ _ _ _ es _ (Nat.le_refl _) G8.ents L8.at_ hl20).mono ?_); rintro _ w9 ⟨rfl, h9⟩; have L9 := L8.below h9; have O9 := O8.below h9 (Nat.le_refl _); have t9 := L9.tabS ht; have c9 := c8.trans (h9.mono c8.size); obtain ⟨p0, p1, p2, p3, p4, p5⟩ := HB.out w9 c9)
        | (go_at_call 31; (with_reducible refine (HFA.out _ O9 t9).mono ?_); rintro _ wa ⟨fa, fc, rfl, Ga, Sa, ha⟩; obtain ⟨gf, rfl, Of⟩ := Sa rfl; have La := L9.below ha; have Oa := O9.below ha (Nat.le_refl _); have ta := La.tabS ht; have ca := c9.trans (ha.mono c9.size); obtain ⟨r0, r1, r2, r3, r4, r5⟩ := HB.out wa ca)
        | (go_at_call 36; (with_reducible refine (HN0.out _ _ _ _ Of ta).mono ?_); rintro _ wb ⟨nb, nbc, rfl, Gb, hb1⟩; have Lb := La.below hb1; have Ob := Oa.below hb1 (Nat.le_refl _); have cb := ca.trans (hb1.mono ca.size); obtain ⟨s0, s1, s2, s3, s4, s5⟩ := HB.out wb cb)
        | (go_at_call 26; (with_reducible refine (lpLog_same _ _ _ _ _ es _ (Nat.le_refl _) Gb.ents Lb.at_ hl20).mono ?_); rintro _ wc ⟨rfl, hc1⟩; have Lc := Lb.below hc1; have Oc := Ob.below hc1 (Nat.le_refl _); have tc := Lc.tabS ht; have cc := cb.trans (hc1.mono cb.size); obtain ⟨q0, q1, q2, q3, q4, q5⟩ := HB.out wc cc)
        | (go_at_call 36; (with_reducible refine (HNE.out _ Oc tc).mono ?_); rintro _ we ⟨ne, nec, rfl, _, he1⟩; have Le := Lc.below he1; have ce := cc.trans (he1.mono cc.size); obtain ⟨u0, u1, u2, u3, u4, u5⟩ := HB.out we ce))
      all_goals
        go_wp2
        go_ret
        exact ⟨rfl, Le.low⟩
  · have i0 : ¬ (len : Int) ≤ 1048576 := by omega
    go_enter Tryd.func11, Tryd.ntmps11
    go_wp2
    go_ret
    exact ⟨rfl, Below.refl _ _⟩
end Go.Proofs.YtgdopdhiloljoaaDoor
