/-
  The walk of the law FnServerFall out of the contracts. Conditions: the argument reads as bytes; the table 'creators' holds what its initialiser lays.
-/
import Derived.Test.YtgdopdhiloljoaaDoorJPServerForm
import Derived.Test.YtgdopdhiloljoaaDoorJSrvBad
import Derived.Deep.RegionHeld3
namespace Go.Proofs.YtgdopdhiloljoaaDoor
open Go.ChangeShapes Go.WideShapes Go.ChangeAt Go.RowKit Go.Joins

set_option maxRecDepth 100000 in
set_option maxHeartbeats 8000000 in
theorem fnServerFall_walk (w : World) (ht : Tab w) (a : Option Addr) (len cap : Nat) (hb : Bytes w a len cap) :
    Calls Tryd.prog 6 #[.slice a len cap] w fun e w' => e = .returned (.bool true) ∧ Below w.heap.size w w' := by
  by_cases hlen : len ≤ 1048576
  · have i0 : (len : Int) ≤ 1048576 := by omega
    have HD := Lib.hid (drawServerFall_any a len cap w hb)
    clear hb
    go_enter Tryd.func6, Tryd.ntmps6
    go_wp2_with fail
    refine HD.out.mono ?_
    rintro _ w1 ⟨g, oc, es, sf, up, n, rfl, hsf, hnn, L1⟩
    obtain ⟨hn1, hn2⟩ := hnn
    clear HD
    have HS : Hid (∀ x : World, Logs w x g oc es → Calls Tryd.prog 33 #[.agg #[.slice (some ⟨g, 0, none⟩) es.length oc, .int .i64 sf, .bool up], .int .i64 n] x (RetSv (fallS ⟨es, sf, up⟩ n) (fallOk ⟨es, sf, up⟩ n) x)) := fun x hL => specServerFall_any g 0 oc es sf up n x hL.hi hL.at_ hL.fit hL.cap.1 hL.cap.2
    have HI : Hid (∀ x : World, Logs w x g oc es → Calls Tryd.prog 31 #[.agg #[.slice (some ⟨g, 0, none⟩) es.length oc, .int .i64 sf, .bool up], .int .i64 n] x (RetSv (fallS ⟨es, sf, up⟩ n) (fallOk ⟨es, sf, up⟩ n) x)) := fun x hL => implServerFall_any g 0 oc es sf up n x hL.hi hL.at_ hL.fit (hL.tabS ht)
    have HK : Hid (∀ x : World, Logs w x g oc es → Calls Tryd.prog 23 #[.agg #[.slice (some ⟨g, 0, none⟩) es.length oc, .int .i64 sf, .bool up]] x (RetBelow (.bool (srvB ⟨es, sf, up⟩)) x)) := fun x hL => specServerOk_any x.heap.size _ _ es sf up x (Nat.le_refl _) hL.at_ hL.fit hL.cap.1 hL.cap.2
    have HFO : Hid (fallOk ⟨es, sf, up⟩ n = (srvB ⟨es, sf, up⟩ && inB n 0 40)) := rfl
    have HRS : Hid (∃ r, r = fallS ⟨es, sf, up⟩ n) := ⟨_, rfl⟩
    obtain ⟨rs, hrs⟩ := HRS.out
    rw [← hrs] at HS HI
    have hel := L1.len
    have hoc := L1.cap
    have hrl : rs.log.length ≤ 1048576 := by
      have : rs.log.length ≤ es.length := by
        rw [hrs]; unfold fallS zsrv; split
        · simp only []; rw [List.length_take]; omega
        · simp
      omega
    have HRE := Lib.hid hrs
    clear hrs HRS
    have al := (Below.refl w1.heap.size w1).alloc (Nat.le_refl _) (.cells #[.slice (some ⟨g, 0, none⟩) es.length oc, .int .i64 sf, .bool up] 35)
    have A2 := Bx.new w1 35 #[.slice (some ⟨g, 0, none⟩) es.length oc, .int .i64 sf, .bool up]
    have L2 := L1.below al
    clear L1 al
    go_upto_region 4 with fail
    generalize w1.alloc (.cells #[.slice (some ⟨g, 0, none⟩) es.length oc, .int .i64 sf, .bool up] 35) = w2 at *
    generalize w1.heap.size = bs at *
    obtain ⟨x0, x1, x2⟩ := A2.srv
    go_wp2_with fail
    refine (HI.out w2 L2).mono ?_
    rintro _ w3 ⟨xa, xc, rfl, G3, S3, h3⟩
    have al := (Below.refl w3.heap.size w3).alloc (Nat.le_refl _) (.cells #[.slice xa rs.log.length xc, .int .i64 rs.safe, .bool rs.up] 35)
    have X4 := Bx.new w3 35 #[.slice xa rs.log.length xc, .int .i64 rs.safe, .bool rs.up]
    have A4 := (A2.below h3 A2.lt).below al (A2.below h3 A2.lt).lt
    have L4 := (L2.below h3).below al
    have G4 := (G3.below al (Nat.le_refl _))
    have S4 : Hid (fallOk ⟨es, sf, up⟩ n = true → ∃ g, xa = some ⟨g, 0, none⟩ ∧ OwnG w2.heap.size (w3.alloc (.cells #[.slice xa rs.log.length xc, .int .i64 rs.safe, .bool rs.up] 35)) g xc rs.log) := fun q => by
      obtain ⟨g', e', o'⟩ := S3 q
      exact ⟨g', e', o'.below al (Nat.le_refl _)⟩
    clear A2 L2 G3 S3 h3 al x0 x1 x2 HI
    go_upto_region 5 with fail
    generalize w3.alloc (.cells #[.slice xa rs.log.length xc, .int .i64 rs.safe, .bool rs.up] 35) = w4 at *
    generalize w3.heap.size = bx at *
    have HB : Hid (∀ x : World, Below w4.heap.size w4 x → (fun x : World => x.cell? ⟨bx, 0, none⟩ = some (.slice xa rs.log.length xc) ∧ x.cell? ⟨bx, 1, none⟩ = some (.int .i64 rs.safe) ∧ x.cell? ⟨bx, 2, none⟩ = some (.bool rs.up) ∧ x.cell? ⟨bs, 0, none⟩ = some (.slice (some ⟨g, 0, none⟩) es.length oc) ∧ x.cell? ⟨bs, 1, none⟩ = some (.int .i64 sf) ∧ x.cell? ⟨bs, 2, none⟩ = some (.bool up)) x) := fun x hx => ⟨(X4.below hx X4.lt).cell 0 rfl, (X4.below hx X4.lt).cell 1 rfl, (X4.below hx X4.lt).cell 2 rfl, (A4.below hx A4.lt).cell 0 rfl, (A4.below hx A4.lt).cell 1 rfl, (A4.below hx A4.lt).cell 2 rfl⟩
    have cd : Below w4.heap.size w4 w4.drew := (Below.refl _ _).drew
    have Ld : Logs w w4.drew g oc es := L4.below cd
    have Gd : GotE w2.heap.size w4.drew xa rs.log := G4.below cd (Nat.le_refl _)
    obtain ⟨x0, x1, x2, x3, x4, x5⟩ := HB.out w4 (Below.refl _ _)
    obtain ⟨y0, y1, y2, y3, y4, y5⟩ := HB.out w4.drew cd
    have hbad : (srvB ⟨es, sf, up⟩ = false ∨ (srvB ⟨es, sf, up⟩ = true ∧ n < 0) ∨ (srvB ⟨es, sf, up⟩ = true ∧ ¬ n < 0 ∧ 40 < n)) ∨ (srvB ⟨es, sf, up⟩ = true ∧ 0 ≤ n ∧ n ≤ 40) := by
      cases srvB ⟨es, sf, up⟩
      · exact .inl (.inl rfl)
      · by_cases q : n < 0
        · exact .inl (.inr (.inl ⟨rfl, q⟩))
        · by_cases q2 : 40 < n
          · exact .inl (.inr (.inr ⟨rfl, q, q2⟩))
          · exact .inr ⟨rfl, by omega, by omega⟩
    rcases hbad with hbad | ⟨hsb, hn0, hn4⟩
    · have hbad3 := hbad
      clear hbad
      rcases hbad3 with hsb | ⟨hsb, hq1⟩ | ⟨hsb, hq1, hq2⟩
      · rw [hsb] at HK
        skip
        have hno : fallOk ⟨es, sf, up⟩ n = false := by unfold fallOk; rw [hsb]; rfl
        have HSZ : Hid (∀ x : World, Logs w x g oc es → Calls Tryd.prog 33 #[.agg #[.slice (some ⟨g, 0, none⟩) es.length oc, .int .i64 sf, .bool up], .int .i64 n] x (RetBelow (.agg #[.slice none 0 0, .int .i64 0, .bool false]) x)) := fun x hL => specServerFall_bad g 0 oc es sf up n x hL.at_ hL.fit hL.cap.1 hL.cap.2 hno
        have hz : rs = zsrv := HRE.out.trans (fall_no hno)
        have HLP : Hid (∀ x : World, Calls Tryd.prog 22 #[.agg #[.slice xa 0 xc, .int .i64 0, .bool false], .agg #[.slice none 0 0, .int .i64 0, .bool false]] x (RetBelow (.bool true) x)) := fun x => lpServer_same x.heap.size xa none xc 0 [] 0 false x (Nat.le_refl _) (.inl rfl) (.inl rfl) (Nat.zero_le _)
        clear HS HRE HFO hrl HB cd Ld Gd G4 S4 hno x0 x1 x2 x3 x4 x5 y0 y1 y2 y3 y4 y5
        subst hz
        have X4' : Bx w4 bx 35 #[.slice xa 0 xc, .int .i64 0, .bool false] := X4
        obtain ⟨e0, e1, e2⟩ := X4'.srv
        obtain ⟨f0, f1, f2⟩ := A4.srv
        have K0 := later_cell e0 X4.lt
        have K1 := later_cell e1 X4.lt
        have K2 := later_cell e2 X4.lt
        have K3 := later_cell f0 A4.lt
        have K4 := later_cell f1 A4.lt
        have K5 := later_cell f2 A4.lt
        clear e0 e1 e2 f0 f1 f2
        refine wp_region_later (by kernel_rfl) (by kernel_rfl) ?_
        repeat (go_big_quiet_step (first
          | (go_at_call 33; exact later_of (HSZ.out _ (L4.below (Later.h _))))
          | (go_at_call 22; exact later_of (HLP.out _))
          | (go_at_call 23; exact later_of (HK.out _ (L4.below (Later.h _))))))
        refine wpQuiet_nil ?_
        rintro V ⟨⟨_, hbn⟩, rfl⟩
        clear K0 K1 K2 K3 K4 K5
        have L5 := L4.below hbn
        have X5 := X4'.below hbn X4'.lt
        have A5 := A4.below hbn A4.lt
        clear L4 X4 X4' A4 hbn
        obtain ⟨e0, e1, e2⟩ := X5.srv
        obtain ⟨f0, f1, f2⟩ := A5.srv
        have K0 := later_cell e0 X5.lt
        have K1 := later_cell e1 X5.lt
        have K2 := later_cell e2 X5.lt
        have K3 := later_cell f0 A5.lt
        have K4 := later_cell f1 A5.lt
        have K5 := later_cell f2 A5.lt
        clear e0 e1 e2 f0 f1 f2
        go_wp2_with fail
        refine wp_region_later (by kernel_rfl) (by kernel_rfl) ?_
        repeat (go_big_quiet_step (first
          | (go_at_call 33; exact later_of (HSZ.out _ (L5.below (Later.h _))))
          | (go_at_call 22; exact later_of (HLP.out _))))
        refine wpQuiet_nil ?_
        rintro V2 ⟨⟨_, hbn⟩, rfl⟩
        have L6 := L5.below hbn
        go_wp2
        go_ret
        exact ⟨rfl, L6.low⟩
      · rw [hsb] at HK
        have hd1 : decide (n < 0) = true := by simpa using hq1
        have hno : fallOk ⟨es, sf, up⟩ n = false := by rw [Bool.eq_false_iff]; intro q; have := fallOk_is.1 q; omega
        have HSZ : Hid (∀ x : World, Logs w x g oc es → Calls Tryd.prog 33 #[.agg #[.slice (some ⟨g, 0, none⟩) es.length oc, .int .i64 sf, .bool up], .int .i64 n] x (RetBelow (.agg #[.slice none 0 0, .int .i64 0, .bool false]) x)) := fun x hL => specServerFall_bad g 0 oc es sf up n x hL.at_ hL.fit hL.cap.1 hL.cap.2 hno
        have hz : rs = zsrv := HRE.out.trans (fall_no hno)
        have HLP : Hid (∀ x : World, Calls Tryd.prog 22 #[.agg #[.slice xa 0 xc, .int .i64 0, .bool false], .agg #[.slice none 0 0, .int .i64 0, .bool false]] x (RetBelow (.bool true) x)) := fun x => lpServer_same x.heap.size xa none xc 0 [] 0 false x (Nat.le_refl _) (.inl rfl) (.inl rfl) (Nat.zero_le _)
        clear HS HRE HFO hrl HB cd Ld Gd G4 S4 hno x0 x1 x2 x3 x4 x5 y0 y1 y2 y3 y4 y5
        subst hz
        have X4' : Bx w4 bx 35 #[.slice xa 0 xc, .int .i64 0, .bool false] := X4
        obtain ⟨e0, e1, e2⟩ := X4'.srv
        obtain ⟨f0, f1, f2⟩ := A4.srv
        have K0 := later_cell e0 X4.lt
        have K1 := later_cell e1 X4.lt
        have K2 := later_cell e2 X4.lt
        have K3 := later_cell f0 A4.lt
        have K4 := later_cell f1 A4.lt
        have K5 := later_cell f2 A4.lt
        clear e0 e1 e2 f0 f1 f2
        refine wp_region_later (by kernel_rfl) (by kernel_rfl) ?_
        repeat (go_big_quiet_step (first
          | (go_at_call 33; exact later_of (HSZ.out _ (L4.below (Later.h _))))
          | (go_at_call 22; exact later_of (HLP.out _))
          | (go_at_call 23; exact later_of (HK.out _ (L4.below (Later.h _))))))
        refine wpQuiet_nil ?_
        rintro V ⟨⟨_, hbn⟩, rfl⟩
        clear K0 K1 K2 K3 K4 K5
        have L5 := L4.below hbn
        have X5 := X4'.below hbn X4'.lt
        have A5 := A4.below hbn A4.lt
        clear L4 X4 X4' A4 hbn
        obtain ⟨e0, e1, e2⟩ := X5.srv
        obtain ⟨f0, f1, f2⟩ := A5.srv
        have K0 := later_cell e0 X5.lt
        have K1 := later_cell e1 X5.lt
        have K2 := later_cell e2 X5.lt
        have K3 := later_cell f0 A5.lt
        have K4 := later_cell f1 A5.lt
        have K5 := later_cell f2 A5.lt
        clear e0 e1 e2 f0 f1 f2
        go_wp2_with fail
        refine wp_region_later (by kernel_rfl) (by kernel_rfl) ?_
        repeat (go_big_quiet_step (first
          | (go_at_call 33; exact later_of (HSZ.out _ (L5.below (Later.h _))))
          | (go_at_call 22; exact later_of (HLP.out _))))
        refine wpQuiet_nil ?_
        rintro V2 ⟨⟨_, hbn⟩, rfl⟩
        have L6 := L5.below hbn
        go_wp2
        go_ret
        exact ⟨rfl, L6.low⟩
      · rw [hsb] at HK
        have hd1 : decide (n < 0) = false := by simpa using hq1
        have hd2 : decide (40 < n) = true := by simpa using hq2
        have hno : fallOk ⟨es, sf, up⟩ n = false := by rw [Bool.eq_false_iff]; intro q; have := fallOk_is.1 q; omega
        have HSZ : Hid (∀ x : World, Logs w x g oc es → Calls Tryd.prog 33 #[.agg #[.slice (some ⟨g, 0, none⟩) es.length oc, .int .i64 sf, .bool up], .int .i64 n] x (RetBelow (.agg #[.slice none 0 0, .int .i64 0, .bool false]) x)) := fun x hL => specServerFall_bad g 0 oc es sf up n x hL.at_ hL.fit hL.cap.1 hL.cap.2 hno
        have hz : rs = zsrv := HRE.out.trans (fall_no hno)
        have HLP : Hid (∀ x : World, Calls Tryd.prog 22 #[.agg #[.slice xa 0 xc, .int .i64 0, .bool false], .agg #[.slice none 0 0, .int .i64 0, .bool false]] x (RetBelow (.bool true) x)) := fun x => lpServer_same x.heap.size xa none xc 0 [] 0 false x (Nat.le_refl _) (.inl rfl) (.inl rfl) (Nat.zero_le _)
        clear HS HRE HFO hrl HB cd Ld Gd G4 S4 hno x0 x1 x2 x3 x4 x5 y0 y1 y2 y3 y4 y5
        subst hz
        have X4' : Bx w4 bx 35 #[.slice xa 0 xc, .int .i64 0, .bool false] := X4
        obtain ⟨e0, e1, e2⟩ := X4'.srv
        obtain ⟨f0, f1, f2⟩ := A4.srv
        have K0 := later_cell e0 X4.lt
        have K1 := later_cell e1 X4.lt
        have K2 := later_cell e2 X4.lt
        have K3 := later_cell f0 A4.lt
        have K4 := later_cell f1 A4.lt
        have K5 := later_cell f2 A4.lt
        clear e0 e1 e2 f0 f1 f2
        refine wp_region_later (by kernel_rfl) (by kernel_rfl) ?_
        repeat (go_big_quiet_step (first
          | (go_at_call 33; exact later_of (HSZ.out _ (L4.below (Later.h _))))
          | (go_at_call 22; exact later_of (HLP.out _))
          | (go_at_call 23; exact later_of (HK.out _ (L4.below (Later.h _))))))
        refine wpQuiet_nil ?_
        rintro V ⟨⟨_, hbn⟩, rfl⟩
        clear K0 K1 K2 K3 K4 K5
        have L5 := L4.below hbn
        have X5 := X4'.below hbn X4'.lt
        have A5 := A4.below hbn A4.lt
        clear L4 X4 X4' A4 hbn
        obtain ⟨e0, e1, e2⟩ := X5.srv
        obtain ⟨f0, f1, f2⟩ := A5.srv
        have K0 := later_cell e0 X5.lt
        have K1 := later_cell e1 X5.lt
        have K2 := later_cell e2 X5.lt
        have K3 := later_cell f0 A5.lt
        have K4 := later_cell f1 A5.lt
        have K5 := later_cell f2 A5.lt
        clear e0 e1 e2 f0 f1 f2
        go_wp2_with fail
        refine wp_region_later (by kernel_rfl) (by kernel_rfl) ?_
        repeat (go_big_quiet_step (first
          | (go_at_call 33; exact later_of (HSZ.out _ (L5.below (Later.h _))))
          | (go_at_call 22; exact later_of (HLP.out _))))
        refine wpQuiet_nil ?_
        rintro V2 ⟨⟨_, hbn⟩, rfl⟩
        have L6 := L5.below hbn
        go_wp2
        go_ret
        exact ⟨rfl, L6.low⟩
    · have HSB := Lib.hid hsb
      have hd1 : decide (n < 0) = false := by simpa using hn0
      have hd2 : decide (40 < n) = false := by simpa using hn4
      have HFT := Lib.hid L4.fit
      have HOKT : Hid (fallOk ⟨es, sf, up⟩ n = true) := fallOk_is.2 ⟨hsb, hn0, hn4⟩
      obtain ⟨_, s0, s1⟩ := srv_iff.1 hsb
      simp only [] at s0 s1
      rw [hsb] at HK
      clear HFO
      go_region_held3 (fun x : World => x.cell? ⟨bx, 0, none⟩ = some (.slice xa rs.log.length xc) ∧ x.cell? ⟨bx, 1, none⟩ = some (.int .i64 rs.safe) ∧ x.cell? ⟨bx, 2, none⟩ = some (.bool rs.up) ∧ x.cell? ⟨bs, 0, none⟩ = some (.slice (some ⟨g, 0, none⟩) es.length oc) ∧ x.cell? ⟨bs, 1, none⟩ = some (.int .i64 sf) ∧ x.cell? ⟨bs, 2, none⟩ = some (.bool up)) (first | (with_reducible exact ⟨x0, x1, x2, x3, x4, x5⟩) | (with_reducible exact ⟨y0, y1, y2, y3, y4, y5⟩) | (with_reducible exact ⟨n0, n1, n2, n3, n4, n5⟩) | (with_reducible exact ⟨p0, p1, p2, p3, p4, p5⟩) | (with_reducible exact ⟨s0, s1, s2, s3, s4, s5⟩)) (first
        | (go_at_call 33; (with_reducible refine (HS.out _ Ld).mono ?_); rintro _ w5 ⟨va, vc, rfl, V5, _, h5⟩; have L5 := Ld.below h5; have G5 := Gd.below h5 (Nat.le_refl _); have c5 := cd.trans h5; obtain ⟨n0, n1, n2, n3, n4, n5⟩ := HB.out w5 c5)
        | (go_at_call 22; (with_reducible refine (lpServer_same _ _ _ _ _ rs.log rs.safe rs.up _ (Nat.le_refl _) G5.ents V5.ents hrl).mono ?_); rintro _ w6 ⟨rfl, h6⟩; have L6 := L5.below h6; have c6 := c5.trans (h6.mono c5.size); obtain ⟨p0, p1, p2, p3, p4, p5⟩ := HB.out w6 c6)
        | (go_at_call 23; (with_reducible refine (HK.out _ L6).mono ?_); rintro _ w7 ⟨rfl, h7⟩; have L7 := L6.below h7; have c7 := c6.trans (h7.mono c6.size); obtain ⟨s0, s1, s2, s3, s4, s5⟩ := HB.out w7 c7))
      clear x0 x1 x2 x3 x4 x5 y0 y1 y2 y3 y4 y5 n0 n1 n2 n3 n4 n5 p0 p1 p2 p3 p4 p5 s0 s1 s2 s3 s4 s5
      have X7 := X4.below c7 X4.lt
      have A7 := A4.below c7 A4.lt
      obtain ⟨gx, rfl, O4⟩ := S4.out HOKT.out
      have O7 := (O4.below c7 (Nat.le_refl _)).mono (Nat.zero_le _)
      clear X4 A4 G4 S4 O4 L4 Ld Gd cd HB L5 L6 G5 c5 c6 c7 h5 h6 h7 V5 HS HK hsb
      obtain ⟨s, rfl⟩ := Int.eq_ofNat_of_zero_le s0
      obtain ⟨l, rfl⟩ := Int.eq_ofNat_of_zero_le hn0
      have hre : rs = ⟨es.take (min es.length (s + l)), s, up⟩ := HRE.out.trans (fall_nat HOKT.out)
      have hag : fallS rs l = rs := by rw [HRE.out]; exact fall_again HOKT.out
      have hrok : srvB rs = true := by rw [HRE.out, fall_yes HOKT.out]; exact srv_fall HSB.out (by omega)
      have hrf : EntsFit rs.log := by rw [HRE.out, fall_yes HOKT.out]; exact fit_take HFT.out (fallE_le _ _)
      have hfo2 : fallOk rs l = true := fallOk_is.2 ⟨hrok, by omega, hn4⟩
      have HKX : Hid (∀ x : World, OwnG 0 x gx xc rs.log → Tab x → Calls Tryd.prog 27 #[.agg #[.slice (some ⟨gx, 0, none⟩) rs.log.length xc, .int .i64 rs.safe, .bool rs.up]] x (RetBelow (.bool true) x)) := fun x hO hT => by
        have q := implServerOk_any x.heap.size (some ⟨gx, 0, none⟩) xc rs.log rs.safe rs.up x (Nat.le_refl _) hO.ents hrf hT
        rw [show srvB ⟨rs.log, rs.safe, rs.up⟩ = true from hrok] at q; exact q
      have HFX : Hid (∀ x : World, OwnG 0 x gx xc rs.log → Tab x → Calls Tryd.prog 31 #[.agg #[.slice (some ⟨gx, 0, none⟩) rs.log.length xc, .int .i64 rs.safe, .bool rs.up], .int .i64 (l : Int)] x (RetSv rs true x)) := fun x hO hT => by
        have q := implServerFall_any gx 0 xc rs.log rs.safe rs.up l x hO.hi hO.ents hrf hT
        rw [show fallS ⟨rs.log, rs.safe, rs.up⟩ l = rs from hag, show fallOk ⟨rs.log, rs.safe, rs.up⟩ l = true from hfo2] at q; exact q
      have HBG : Hid (∀ x : World, OwnG 0 x gx xc rs.log → Logs w x g oc es → Calls Tryd.prog 34 #[.slice (some ⟨gx, 0, none⟩) rs.log.length xc, .slice (some ⟨g, 0, none⟩) es.length oc] x (RetBelow (.bool true) x)) := fun x hO hL => by
        have hll : rs.log.length = min es.length (s + l) := by rw [hre]; simp only []; rw [List.length_take]; omega
        have q := lpBegins_take x.heap.size (some ⟨gx, 0, none⟩) (some ⟨g, 0, none⟩) xc oc (min es.length (s + l)) es x (Nat.le_refl _) (by have := hO.ents; rw [hre] at this; exact this) hL.at_ (by omega) hL.cap.1 hL.cap.2 (by omega)
        rw [← hll] at q; exact q
      have hsafe : (rs.safe == (s : Int)) = true := by rw [hre]; simp
      have hmin : ((¬ ((s : Int) + (l : Int) < (es.length : Int))) ∧ ((rs.log.length : Int) == (es.length : Int)) = true) ∨ ((s : Int) + (l : Int) < (es.length : Int) ∧ ((rs.log.length : Int) == (s : Int) + (l : Int)) = true) := by
        have hll : rs.log.length = min es.length (s + l) := by rw [hre]; simp only []; rw [List.length_take]; omega
        by_cases q : (s : Int) + (l : Int) < (es.length : Int)
        · exact .inr ⟨q, by simp only [beq_iff_eq]; omega⟩
        · exact .inl ⟨q, by simp only [beq_iff_eq]; omega⟩
      have HB : Hid (∀ x : World, Below w7.heap.size w7 x → (fun x : World => x.cell? ⟨bx, 0, none⟩ = some (.slice (some ⟨gx, 0, none⟩) rs.log.length xc) ∧ x.cell? ⟨bx, 1, none⟩ = some (.int .i64 rs.safe) ∧ x.cell? ⟨bx, 2, none⟩ = some (.bool rs.up) ∧ x.cell? ⟨bs, 0, none⟩ = some (.slice (some ⟨g, 0, none⟩) es.length oc) ∧ x.cell? ⟨bs, 1, none⟩ = some (.int .i64 (s : Int)) ∧ x.cell? ⟨bs, 2, none⟩ = some (.bool up)) x) := fun x hx => ⟨(X7.below hx X7.lt).cell 0 rfl, (X7.below hx X7.lt).cell 1 rfl, (X7.below hx X7.lt).cell 2 rfl, (A7.below hx A7.lt).cell 0 rfl, (A7.below hx A7.lt).cell 1 rfl, (A7.below hx A7.lt).cell 2 rfl⟩
      have cd : Below w7.heap.size w7 w7.drew := (Below.refl _ _).drew
      obtain ⟨x0, x1, x2, x3, x4, x5⟩ := HB.out w7 (Below.refl _ _)
      obtain ⟨y0, y1, y2, y3, y4, y5⟩ := HB.out w7.drew cd
      have Ld : Logs w w7.drew g oc es := L7.below cd
      have Od : OwnG 0 w7.drew gx xc rs.log := O7.below cd (Nat.le_refl _)
      have td := Ld.tabS ht
      clear X7 A7 L7 O7 HOKT HRE hre hag hrok hrf hfo2
      rcases hmin with ⟨hm1, hm2⟩ | ⟨hm1, hm2⟩
      · have hmq : ((rs.log.length : Int) == (if (s : Int) + (l : Int) < (es.length : Int) then (s : Int) + (l : Int) else (es.length : Int))) = true := by
          first | rw [if_neg hm1]; exact hm2 | rw [if_pos hm1]; exact hm2
        have hq2 := hm2
        simp only [beq_iff_eq] at hq2
        have hm7 : decide ((rs.log.length : Int) = (if (s : Int) + (l : Int) < (es.length : Int) then (s : Int) + (l : Int) else (es.length : Int))) = true := by simpa using hmq
        have hm8 : decide ((rs.log.length : Int) = (es.length : Int)) = true := by simpa using hq2
        have hm9 : (rs.log.length == es.length) = true := by simp only [beq_iff_eq]; omega
        have hma : decide (rs.log.length = es.length) = true := by simp only [decide_eq_true_eq]; omega
        clear hq2
        have hwr : IntKind.i64.wrap ((s : Int) + (l : Int)) = (s : Int) + (l : Int) := IntWalk.i64_in _ (by omega)
        go_upto_region 7 with fail
        go_region_held3 (fun x : World => x.cell? ⟨bx, 0, none⟩ = some (.slice (some ⟨gx, 0, none⟩) rs.log.length xc) ∧ x.cell? ⟨bx, 1, none⟩ = some (.int .i64 rs.safe) ∧ x.cell? ⟨bx, 2, none⟩ = some (.bool rs.up) ∧ x.cell? ⟨bs, 0, none⟩ = some (.slice (some ⟨g, 0, none⟩) es.length oc) ∧ x.cell? ⟨bs, 1, none⟩ = some (.int .i64 (s : Int)) ∧ x.cell? ⟨bs, 2, none⟩ = some (.bool up)) (first | (with_reducible exact ⟨x0, x1, x2, x3, x4, x5⟩) | (with_reducible exact ⟨y0, y1, y2, y3, y4, y5⟩) | (with_reducible exact ⟨n0, n1, n2, n3, n4, n5⟩) | (with_reducible exact ⟨p0, p1, p2, p3, p4, p5⟩) | (with_reducible exact ⟨r0, r1, r2, r3, r4, r5⟩) | (with_reducible exact ⟨t0, t1, t2, t3, t4, t5⟩)) (first
          | (go_at_call 27; (with_reducible refine (HKX.out _ Od td).mono ?_); rintro _ w8 ⟨rfl, h8⟩; have L8 := Ld.below h8; have O8 := Od.below h8 (Nat.le_refl _); have c8 := cd.trans h8; obtain ⟨n0, n1, n2, n3, n4, n5⟩ := HB.out w8 c8)
          | (go_at_call 34; (with_reducible refine (HBG.out _ O8 L8).mono ?_); rintro _ w9 ⟨rfl, h9⟩; have L9 := L8.below h9; have O9 := O8.below h9 (Nat.le_refl _); have t9 := L9.tabS ht; have c9 := c8.trans (h9.mono c8.size); obtain ⟨p0, p1, p2, p3, p4, p5⟩ := HB.out w9 c9)
          | (go_at_call 31; (with_reducible refine (HFX.out _ O9 t9).mono ?_); rintro _ wa ⟨fa, fc, rfl, Ga, _, ha⟩; have La := L9.below ha; have Oa := O9.below ha (Nat.le_refl _); have ca := c9.trans (ha.mono c9.size); obtain ⟨r0, r1, r2, r3, r4, r5⟩ := HB.out wa ca)
          | (go_at_call 22; (with_reducible refine (lpServer_same _ _ _ _ _ rs.log rs.safe rs.up _ (Nat.le_refl _) Ga.ents Oa.ents hrl).mono ?_); rintro _ wb ⟨rfl, hb1⟩; have Lb := La.below hb1; have cb := ca.trans (hb1.mono ca.size); obtain ⟨t0, t1, t2, t3, t4, t5⟩ := HB.out wb cb))
        all_goals
          go_wp2
          go_ret
          exact ⟨rfl, Lb.low⟩
      · have hmq : ((rs.log.length : Int) == (if (s : Int) + (l : Int) < (es.length : Int) then (s : Int) + (l : Int) else (es.length : Int))) = true := by
          first | rw [if_neg hm1]; exact hm2 | rw [if_pos hm1]; exact hm2
        have hq2 := hm2
        simp only [beq_iff_eq] at hq2
        have hm7 : decide ((rs.log.length : Int) = (if (s : Int) + (l : Int) < (es.length : Int) then (s : Int) + (l : Int) else (es.length : Int))) = true := by simpa using hmq
        have hm8 : decide ((rs.log.length : Int) = (s : Int) + (l : Int)) = true := by simpa using hq2
        have hm9 : (rs.log.length == s + l) = true := by simp only [beq_iff_eq]; omega
        have hma : decide (rs.log.length = s + l) = true := by simp only [decide_eq_true_eq]; omega
        clear hq2
        have hwr : IntKind.i64.wrap ((s : Int) + (l : Int)) = (s : Int) + (l : Int) := IntWalk.i64_in _ (by omega)
        go_upto_region 7 with fail
        go_region_held3 (fun x : World => x.cell? ⟨bx, 0, none⟩ = some (.slice (some ⟨gx, 0, none⟩) rs.log.length xc) ∧ x.cell? ⟨bx, 1, none⟩ = some (.int .i64 rs.safe) ∧ x.cell? ⟨bx, 2, none⟩ = some (.bool rs.up) ∧ x.cell? ⟨bs, 0, none⟩ = some (.slice (some ⟨g, 0, none⟩) es.length oc) ∧ x.cell? ⟨bs, 1, none⟩ = some (.int .i64 (s : Int)) ∧ x.cell? ⟨bs, 2, none⟩ = some (.bool up)) (first | (with_reducible exact ⟨x0, x1, x2, x3, x4, x5⟩) | (with_reducible exact ⟨y0, y1, y2, y3, y4, y5⟩) | (with_reducible exact ⟨n0, n1, n2, n3, n4, n5⟩) | (with_reducible exact ⟨p0, p1, p2, p3, p4, p5⟩) | (with_reducible exact ⟨r0, r1, r2, r3, r4, r5⟩) | (with_reducible exact ⟨t0, t1, t2, t3, t4, t5⟩)) (first
          | (go_at_call 27; (with_reducible refine (HKX.out _ Od td).mono ?_); rintro _ w8 ⟨rfl, h8⟩; have L8 := Ld.below h8; have O8 := Od.below h8 (Nat.le_refl _); have c8 := cd.trans h8; obtain ⟨n0, n1, n2, n3, n4, n5⟩ := HB.out w8 c8)
          | (go_at_call 34; (with_reducible refine (HBG.out _ O8 L8).mono ?_); rintro _ w9 ⟨rfl, h9⟩; have L9 := L8.below h9; have O9 := O8.below h9 (Nat.le_refl _); have t9 := L9.tabS ht; have c9 := c8.trans (h9.mono c8.size); obtain ⟨p0, p1, p2, p3, p4, p5⟩ := HB.out w9 c9)
          | (go_at_call 31; (with_reducible refine (HFX.out _ O9 t9).mono ?_); rintro _ wa ⟨fa, fc, rfl, Ga, _, ha⟩; have La := L9.below ha; have Oa := O9.below ha (Nat.le_refl _); have ca := c9.trans (ha.mono c9.size); obtain ⟨r0, r1, r2, r3, r4, r5⟩ := HB.out wa ca)
          | (go_at_call 22; (with_reducible refine (lpServer_same _ _ _ _ _ rs.log rs.safe rs.up _ (Nat.le_refl _) Ga.ents Oa.ents hrl).mono ?_); rintro _ wb ⟨rfl, hb1⟩; have Lb := La.below hb1; have cb := ca.trans (hb1.mono ca.size); obtain ⟨t0, t1, t2, t3, t4, t5⟩ := HB.out wb cb))
        all_goals
          go_wp2
          go_ret
          exact ⟨rfl, Lb.low⟩
  · have i0 : ¬ (len : Int) ≤ 1048576 := by omega
    go_enter Tryd.func6, Tryd.ntmps6
    go_wp2
    go_ret
    exact ⟨rfl, Below.refl _ _⟩
end Go.Proofs.YtgdopdhiloljoaaDoor
