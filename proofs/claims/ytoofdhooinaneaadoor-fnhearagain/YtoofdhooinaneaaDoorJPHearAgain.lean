/-
  The walk of the law FnHearAgain out of the contracts. Conditions: the argument reads as bytes; the table 'creators' holds what its initialiser lays.
-/
import Derived.Test.YtoofdhooinaneaaDoorJPHear
import Derived.Test.YtoofdhooinaneaaDoorGV
import Derived.Deep.RegionHeld3
namespace Go.Proofs.YtoofdhooinaneaaDoor
open Go.ChangeShapes Go.WideShapes Go.ChangeAt Go.RowKit Go.Joins

set_option maxRecDepth 100000 in
set_option maxHeartbeats 8000000 in
theorem fnHearAgain_walk (w : World) (ht : Tab w) (a : Option Addr) (len cap : Nat) (hb : Bytes w a len cap) :
    Calls Tryd.prog 7 #[.slice a len cap] w fun e w' => e = .returned (.bool true) ∧ Below w.heap.size w w' := by
  by_cases hlen : len ≤ 1048576
  · have i0 : (len : Int) ≤ 1048576 := by omega
    have HD := Lib.hid (drawServerHear_any a len cap w hb)
    clear hb
    go_enter Tryd.func7, Tryd.ntmps7
    go_wp2_with fail
    refine HD.out.mono ?_
    rintro _ w1 ⟨g, oc, es, sf, up, e, rfl, hsf, hes, L1⟩
    clear HD
    have HFE := Lib.hid hes.fit
    have HS : Hid (∀ x : World, Logs w x g oc es → Calls Tryd.prog 28 #[.agg #[.slice (some ⟨g, 0, none⟩) es.length oc, .int .i64 sf, .bool up], .agg #[.int .i64 e.who, .int .i64 e.seq, .int .i64 e.op.kind, .int .i64 e.op.id, .int .i64 e.op.up, .int .i64 e.op.at_, .string e.op.txt]] x (RetHr (hearS ⟨es, sf, up⟩ e) (hearB ⟨es, sf, up⟩ e) x)) := fun x hL => specServerHear_any g 0 oc es sf up e x hL.hi hL.at_ hL.fit HFE.out hL.cap.1 hL.cap.2
    have HI : Hid (∀ x : World, Logs w x g oc es → Calls Tryd.prog 29 #[.agg #[.slice (some ⟨g, 0, none⟩) es.length oc, .int .i64 sf, .bool up], .agg #[.int .i64 e.who, .int .i64 e.seq, .int .i64 e.op.kind, .int .i64 e.op.id, .int .i64 e.op.up, .int .i64 e.op.at_, .string e.op.txt]] x (RetHr (hearS ⟨es, sf, up⟩ e) (hearB ⟨es, sf, up⟩ e) x)) := fun x hL => implServerHear_any g 0 oc es sf up e x hL.hi hL.at_ hL.fit (hL.tabS ht) HFE.out
    have hel := L1.len
    have HFT := Lib.hid L1.fit
    have hrl : (hearS ⟨es, sf, up⟩ e).log.length ≤ 1048576 := hear_len es sf up e (by omega)
    have HRS := Lib.hid (rfl : hearS ⟨es, sf, up⟩ e = hearS ⟨es, sf, up⟩ e)
    obtain ⟨rs, hrs⟩ : ∃ r, r = hearS ⟨es, sf, up⟩ e := ⟨_, rfl⟩
    obtain ⟨tb, htb⟩ : ∃ r, r = hearB ⟨es, sf, up⟩ e := ⟨_, rfl⟩
    rw [← hrs] at hrl
    rw [← hrs, ← htb] at HS HI
    have HRE := Lib.hid hrs
    have HTB := Lib.hid htb
    clear hrs htb HRS hes
    have al : Below w1.heap.size w1 ((w1.alloc (.cells #[.slice (some ⟨g, 0, none⟩) es.length oc, .int .i64 sf, .bool up] 43)).alloc (.cells #[.int .i64 e.who, .int .i64 e.seq, .int .i64 e.op.kind, .int .i64 e.op.id, .int .i64 e.op.up, .int .i64 e.op.at_, .string e.op.txt] 52)) := ((Below.refl _ _).alloc (Nat.le_refl _) _).alloc (by simp) _
    have A2 := (Bx.new w1 43 #[.slice (some ⟨g, 0, none⟩) es.length oc, .int .i64 sf, .bool up]).alloc (.cells #[.int .i64 e.who, .int .i64 e.seq, .int .i64 e.op.kind, .int .i64 e.op.id, .int .i64 e.op.up, .int .i64 e.op.at_, .string e.op.txt] 52)
    have K2 := Bx.new (w1.alloc (.cells #[.slice (some ⟨g, 0, none⟩) es.length oc, .int .i64 sf, .bool up] 43)) 52 #[.int .i64 e.who, .int .i64 e.seq, .int .i64 e.op.kind, .int .i64 e.op.id, .int .i64 e.op.up, .int .i64 e.op.at_, .string e.op.txt]
    have hs1 : (w1.alloc (.cells #[.slice (some ⟨g, 0, none⟩) es.length oc, .int .i64 sf, .bool up] 43)).heap.size = w1.heap.size + 1 := by simp
    rw [hs1] at K2
    have L2 := L1.below al
    clear L1 al hs1
    go_upto_region 4 with fail
    generalize ((w1.alloc (.cells #[.slice (some ⟨g, 0, none⟩) es.length oc, .int .i64 sf, .bool up] 43)).alloc (.cells #[.int .i64 e.who, .int .i64 e.seq, .int .i64 e.op.kind, .int .i64 e.op.id, .int .i64 e.op.up, .int .i64 e.op.at_, .string e.op.txt] 52)) = w2 at *
    generalize w1.heap.size = bs at *
    obtain ⟨x0, x1, x2⟩ := A2.srv
    have e0 := K2.cell 0 rfl
    have e1 := K2.cell 1 rfl
    have e2 := K2.cell 2 rfl
    have e3 := K2.cell 3 rfl
    have e4 := K2.cell 4 rfl
    have e5 := K2.cell 5 rfl
    have e6 := K2.cell 6 rfl
    go_wp2_with fail
    refine (HS.out w2 L2).mono ?_
    rintro _ w3 ⟨wa, wk, rfl, V3, h3⟩
    have al := (Below.refl w3.heap.size w3).alloc (Nat.le_refl _) (.cells #[.slice wa rs.log.length wk, .int .i64 rs.safe, .bool rs.up] 43)
    have W4 := Bx.new w3 43 #[.slice wa rs.log.length wk, .int .i64 rs.safe, .bool rs.up]
    have A4 := (A2.below h3 A2.lt).below al (A2.below h3 A2.lt).lt
    have K4 := (K2.below h3 K2.lt).below al (K2.below h3 K2.lt).lt
    have L4 := (L2.below h3).below al
    have V4 := (V3.below al (Nat.le_refl _)).ents
    clear A2 K2 L2 V3 h3 al x0 x1 x2 e0 e1 e2 e3 e4 e5 e6 HS
    go_upto_region 5 with fail
    generalize w3.alloc (.cells #[.slice wa rs.log.length wk, .int .i64 rs.safe, .bool rs.up] 43) = w4 at *
    generalize w3.heap.size = bw at *
    obtain ⟨x0, x1, x2⟩ := A4.srv
    have e0 := K4.cell 0 rfl
    have e1 := K4.cell 1 rfl
    have e2 := K4.cell 2 rfl
    have e3 := K4.cell 3 rfl
    have e4 := K4.cell 4 rfl
    have e5 := K4.cell 5 rfl
    have e6 := K4.cell 6 rfl
    go_wp2_with fail
    refine (HI.out w4 L4).mono ?_
    rintro _ w5 ⟨xa, xc, rfl, G5, h5⟩
    have al := (Below.refl w5.heap.size w5).alloc (Nat.le_refl _) (.cells #[.slice xa rs.log.length xc, .int .i64 rs.safe, .bool rs.up] 43)
    have X6 := Bx.new w5 43 #[.slice xa rs.log.length xc, .int .i64 rs.safe, .bool rs.up]
    have A6 := (A4.below h5 A4.lt).below al (A4.below h5 A4.lt).lt
    have K6 := (K4.below h5 K4.lt).below al (K4.below h5 K4.lt).lt
    have W6 := (W4.below h5 W4.lt).below al (W4.below h5 W4.lt).lt
    have L6 := (L4.below h5).below al
    have V6 := (((V4.below h5).mono h5.size).below al).mono al.size
    have J6 := G5.below al (Nat.le_refl _)
    have G6 := J6.ents
    have hs46 := Nat.le_trans h5.size al.size
    clear A4 K4 W4 L4 V4 G5 h5 al x0 x1 x2 e0 e1 e2 e3 e4 e5 e6 HI
    go_upto_region 6 with fail
    generalize w5.alloc (.cells #[.slice xa rs.log.length xc, .int .i64 rs.safe, .bool rs.up] 43) = w6 at *
    generalize w5.heap.size = bx at *
    have hsz0 := Lib.hid hs46
    clear hs46 hsz0
    obtain ⟨x0, x1, x2⟩ := X6.srv
    obtain ⟨y0, y1, y2⟩ := W6.srv
    go_wp2_with fail
    refine (lpServer_same _ _ _ _ _ rs.log rs.safe rs.up w6 (Nat.le_refl _) G6 V6 hrl).mono ?_
    rintro _ w7 ⟨rfl, h7⟩
    have X7 := X6.below h7 X6.lt
    have A7 := A6.below h7 A6.lt
    have K7 := K6.below h7 K6.lt
    have W7 := W6.below h7 W6.lt
    have L7 := L6.below h7
    have V7 := (V6.below h7).mono h7.size
    have G7 := (G6.below h7).mono h7.size
    have J7 := J6.below h7 (Nat.le_refl _)
    clear X6 A6 K6 W6 L6 V6 G6 J6 h7
    clear x0 x1 x2 y0 y1 y2
    cases tb
    · obtain ⟨x0, x1, x2⟩ := X7.srv
      obtain ⟨y0, y1, y2⟩ := W7.srv
      clear HRE HTB
      go_wp2_with fail
      refine (lpServer_same _ _ _ _ _ rs.log rs.safe rs.up w7 (Nat.le_refl _) G7 V7 hrl).mono ?_
      rintro _ w9 ⟨rfl, h9⟩
      have L9 := L7.below h9
      go_wp2
      go_ret
      exact ⟨rfl, L9.low⟩
    · have hbt : hearB ⟨es, sf, up⟩ e = true := HTB.out.symm
      obtain ⟨q1, q2, q3, q4, q5, q6⟩ := hear_is hbt
      have hrs : rs = ⟨es ++ [e], sf, up⟩ := by rw [HRE.out, q6]
      simp only [] at q3 q4
      have hv : srvB rs = true := by rw [hrs]; exact srv_snoc q1 q2 q4
      have hlg : logB rs.log = true := (srv_iff.1 hv).1
      have hll := logB_len hlg
      have HA1 : Hid (hearS rs e = rs ∧ hearB rs e = false) := by
        unfold Hid; rw [hrs]; exact hear_again hbt (srv_snoc q1 q2 q4)
      have HSY : Hid (syncS rs = ⟨rs.log, rs.log.length, true⟩ ∧ syncB rs = true) := by
        unfold Hid
        have hup : rs.up = true := by rw [hrs]; exact q3
        have := sync_up hv hup
        rw [hup] at this; exact this
      have HFA : Hid (fallS ⟨rs.log, rs.log.length, true⟩ 0 = ⟨rs.log, rs.log.length, true⟩ ∧ fallOk ⟨rs.log, rs.log.length, true⟩ 0 = true) := ⟨fall_full hlg, fallOk_is.2 ⟨srv_full hlg, by omega, by omega⟩⟩
      have HA2 : Hid (hearS ⟨rs.log, rs.log.length, true⟩ e = ⟨rs.log, rs.log.length, true⟩ ∧ hearB ⟨rs.log, rs.log.length, true⟩ e = false) := by
        unfold Hid
        have hle : rs.log = es ++ [e] := by rw [hrs]
        rw [hle]
        have h0 : hearB (⟨es, 0, true⟩ : SrvD) e = true := by
          have h00 : srvB (⟨es, 0, true⟩ : SrvD) = true := srv_iff.2 ⟨(srv_iff.1 q1).1, by show (0 : Int) ≤ 0; decide, by show (0 : Int) ≤ _; omega⟩
          exact (hear_next h00 q2 rfl q4).1
        exact hear_again (s := ⟨es, 0, true⟩) (sf := ((es ++ [e]).length : Int)) h0 (srv_full (by rw [← hle]; exact hlg))
      have hfs : EntsFit rs.log := by rw [hrs]; exact fit_snoc HFT.out (by omega) HFE.out
      have HFS := Lib.hid hfs
      have hpos : 0 < rs.log.length := by rw [hrs]; simp
      have J7' := J7
      rcases J7' with jz | ⟨xg, C, rfl, hxg, hox⟩
      · omega
      have hxl := hox.lt
      clear hbt q1 q2 q3 q4 q5 q6 hrs hv hlg hfs hox HRE HTB
      have HI2 : Hid (∀ x : World, w7.heap.size ≤ x.heap.size → EntsAt w7.heap.size x (some ⟨xg, 0, none⟩) rs.log → Tab x → Calls Tryd.prog 29 #[.agg #[.slice (some ⟨xg, 0, none⟩) rs.log.length xc, .int .i64 rs.safe, .bool rs.up], .agg #[.int .i64 e.who, .int .i64 e.seq, .int .i64 e.op.kind, .int .i64 e.op.id, .int .i64 e.op.up, .int .i64 e.op.at_, .string e.op.txt]] x (RetHr rs false x)) := fun x hs hx htx => by
        have := implServerHear_any xg 0 xc rs.log rs.safe rs.up e x (Nat.lt_of_lt_of_le hxl hs) (hx.mono hs) HFS.out htx HFE.out
        rw [show (⟨rs.log, rs.safe, rs.up⟩ : SrvD) = rs from rfl, HA1.out.1, HA1.out.2] at this
        exact this
      have HI3 : Hid (∀ x : World, w7.heap.size ≤ x.heap.size → EntsAt w7.heap.size x (some ⟨xg, 0, none⟩) rs.log → Tab x → Calls Tryd.prog 31 #[.agg #[.slice (some ⟨xg, 0, none⟩) rs.log.length xc, .int .i64 rs.safe, .bool rs.up]] x (RetSvB ⟨rs.log, rs.log.length, true⟩ true true x)) := fun x hs hx htx => by
        have := implServerSync_any xg 0 xc rs.log rs.safe rs.up x (Nat.lt_of_lt_of_le hxl hs) (hx.mono hs) HFS.out htx
        rw [show (⟨rs.log, rs.safe, rs.up⟩ : SrvD) = rs from rfl, HSY.out.1, HSY.out.2] at this
        exact this.mono fun r w' h => by
          obtain ⟨a, c, h1, h2, h3, h4⟩ := h
          exact ⟨a, c, h1, h2, fun _ => h3 (by have := HSY.out.2; simp only [syncB, Bool.and_eq_true] at this; exact this.1), h4⟩
      clear HA1 HSY
      obtain ⟨x0, x1, x2⟩ := X7.srv
      have e0 := K7.cell 0 rfl
      have e1 := K7.cell 1 rfl
      have e2 := K7.cell 2 rfl
      have e3 := K7.cell 3 rfl
      have e4 := K7.cell 4 rfl
      have e5 := K7.cell 5 rfl
      have e6 := K7.cell 6 rfl
      go_wp2_with fail
      refine (HI2.out w7 (Nat.le_refl _) G7 (L7.tabS ht)).mono ?_
      rintro _ w8 ⟨ya, yc, rfl, Y8, h8⟩
      have al := (Below.refl w8.heap.size w8).alloc (Nat.le_refl _) (.cells #[.slice ya rs.log.length yc, .int .i64 rs.safe, .bool rs.up] 43)
      have D9 : Below w7.heap.size w7 (w8.alloc (.cells #[.slice ya rs.log.length yc, .int .i64 rs.safe, .bool rs.up] 43)) := h8.alloc h8.size _
      have Y9 := Bx.new w8 43 #[.slice ya rs.log.length yc, .int .i64 rs.safe, .bool rs.up]
      have X9 := X7.below D9 X7.lt
      have K9 := K7.below D9 K7.lt
      have L9 := L7.below D9
      have G9 := G7.below D9
      have V9 := (Y8.below al (Nat.le_refl _)).ents
      have hy9 : w7.heap.size ≤ w8.heap.size := h8.size
      have s9 := D9.size
      clear X7 K7 W7 L7 V7 J7 Y8 h8 al D9 x0 x1 x2 e0 e1 e2 e3 e4 e5 e6
      go_upto_region 9 with fail
      generalize w8.alloc (.cells #[.slice ya rs.log.length yc, .int .i64 rs.safe, .bool rs.up] 43) = w9 at *
      generalize w8.heap.size = by8 at *
      obtain ⟨x0, x1, x2⟩ := X9.srv
      go_wp2_with fail
      refine (HI3.out w9 s9 G9 (L9.tabS ht)).mono ?_
      rintro _ w10 ⟨za, zc, rfl, Z10, hzs, h10⟩
      obtain ⟨zg, rfl, ZO⟩ := hzs rfl
      simp only [] at Z10 ZO
      have al := (Below.refl w10.heap.size w10).alloc (Nat.le_refl _) (.cells #[.slice (some ⟨zg, 0, none⟩) rs.log.length zc, .int .i64 (rs.log.length : Int), .bool true] 43)
      have D11 : Below w9.heap.size w9 (w10.alloc (.cells #[.slice (some ⟨zg, 0, none⟩) rs.log.length zc, .int .i64 (rs.log.length : Int), .bool true] 43)) := h10.alloc h10.size _
      have Z11 := Bx.new w10 43 #[.slice (some ⟨zg, 0, none⟩) rs.log.length zc, .int .i64 (rs.log.length : Int), .bool true]
      have X11 := X9.below D11 X9.lt
      have K11 := K9.below D11 K9.lt
      have Y11 := Y9.below D11 Y9.lt
      have L11 := L9.below D11
      have G11 := G9.below (D11.mono s9)
      have V11 := (V9.below D11).mono D11.size
      have O11 := ZO.alloc (.cells #[.slice (some ⟨zg, 0, none⟩) rs.log.length zc, .int .i64 (rs.log.length : Int), .bool true] 43)
      have s11 := Nat.le_trans s9 D11.size
      clear X9 K9 Y9 L9 G9 V9 Z10 ZO h10 al D11 x0 x1 x2 hzs s9
      go_upto_region 10 with fail
      generalize w10.alloc (.cells #[.slice (some ⟨zg, 0, none⟩) rs.log.length zc, .int .i64 (rs.log.length : Int), .bool true] 43) = w11 at *
      generalize w10.heap.size = bz at *
      have HFL : Hid (∀ x : World, Below w11.heap.size w11 x → Calls Tryd.prog 32 #[.agg #[.slice (some ⟨zg, 0, none⟩) rs.log.length zc, .int .i64 (rs.log.length : Int), .bool true], .int .i64 0] x (RetSv ⟨rs.log, rs.log.length, true⟩ true x)) := fun x hx => by
        have := implServerFall_any zg 0 zc rs.log rs.log.length true 0 x (Nat.lt_of_lt_of_le O11.hi hx.size) ((O11.ents.below hx).mono hx.size) HFS.out ((L11.below hx).tabS ht)
        rw [HFA.out.1, HFA.out.2] at this
        exact this
      have HHL : Hid (∀ (g c : Nat) (x : World), Below w11.heap.size w11 x → g < x.heap.size → EntsAt x.heap.size x (some ⟨g, 0, none⟩) rs.log → Calls Tryd.prog 29 #[.agg #[.slice (some ⟨g, 0, none⟩) rs.log.length c, .int .i64 (rs.log.length : Int), .bool true], .agg #[.int .i64 e.who, .int .i64 e.seq, .int .i64 e.op.kind, .int .i64 e.op.id, .int .i64 e.op.up, .int .i64 e.op.at_, .string e.op.txt]] x (RetHr ⟨rs.log, rs.log.length, true⟩ false x)) := fun g c x hx hg he => by
        have := implServerHear_any g 0 c rs.log rs.log.length true e x hg he HFS.out ((L11.below hx).tabS ht) HFE.out
        rw [HA2.out.1, HA2.out.2] at this
        exact this
      have hlz := Z11.lt
      have hlk := K11.lt
      have z0 : w11.cell? ⟨bz, 0, none⟩ = some (.slice (some ⟨zg, 0, none⟩) rs.log.length zc) := Z11.cell 0 rfl
      have z1 : w11.cell? ⟨bz, 1, none⟩ = some (.int .i64 (rs.log.length : Int)) := Z11.cell 1 rfl
      have z2 : w11.cell? ⟨bz, 2, none⟩ = some (.bool true) := Z11.cell 2 rfl
      have k0 : w11.cell? ⟨bs + 1, 0, none⟩ = some (.int .i64 e.who) := K11.cell 0 rfl
      have k1 : w11.cell? ⟨bs + 1, 1, none⟩ = some (.int .i64 e.seq) := K11.cell 1 rfl
      have k2 : w11.cell? ⟨bs + 1, 2, none⟩ = some (.int .i64 e.op.kind) := K11.cell 2 rfl
      have k3 : w11.cell? ⟨bs + 1, 3, none⟩ = some (.int .i64 e.op.id) := K11.cell 3 rfl
      have k4 : w11.cell? ⟨bs + 1, 4, none⟩ = some (.int .i64 e.op.up) := K11.cell 4 rfl
      have k5 : w11.cell? ⟨bs + 1, 5, none⟩ = some (.int .i64 e.op.at_) := K11.cell 5 rfl
      have k6 : w11.cell? ⟨bs + 1, 6, none⟩ = some (.string e.op.txt) := K11.cell 6 rfl
      have HSb : Hid (∀ x : World, Below w11.heap.size w11 x → x.cell? ⟨bz, 0, none⟩ = some (.slice (some ⟨zg, 0, none⟩) rs.log.length zc) ∧ x.cell? ⟨bz, 1, none⟩ = some (.int .i64 (rs.log.length : Int)) ∧ x.cell? ⟨bz, 2, none⟩ = some (.bool true) ∧ x.cell? ⟨bs + 1, 0, none⟩ = some (.int .i64 e.who) ∧ x.cell? ⟨bs + 1, 1, none⟩ = some (.int .i64 e.seq) ∧ x.cell? ⟨bs + 1, 2, none⟩ = some (.int .i64 e.op.kind) ∧ x.cell? ⟨bs + 1, 3, none⟩ = some (.int .i64 e.op.id) ∧ x.cell? ⟨bs + 1, 4, none⟩ = some (.int .i64 e.op.up) ∧ x.cell? ⟨bs + 1, 5, none⟩ = some (.int .i64 e.op.at_) ∧ x.cell? ⟨bs + 1, 6, none⟩ = some (.string e.op.txt)) := fun x hx => ⟨(hx.cell (p := ⟨_, 0, none⟩) hlz).trans z0, (hx.cell (p := ⟨_, 1, none⟩) hlz).trans z1, (hx.cell (p := ⟨_, 2, none⟩) hlz).trans z2, (hx.cell (p := ⟨_, 0, none⟩) hlk).trans k0, (hx.cell (p := ⟨_, 1, none⟩) hlk).trans k1, (hx.cell (p := ⟨_, 2, none⟩) hlk).trans k2, (hx.cell (p := ⟨_, 3, none⟩) hlk).trans k3, (hx.cell (p := ⟨_, 4, none⟩) hlk).trans k4, (hx.cell (p := ⟨_, 5, none⟩) hlk).trans k5, (hx.cell (p := ⟨_, 6, none⟩) hlk).trans k6⟩
      go_cut [13, 14] (fun p q wx => ∃ bu ua uc, p = .pointer (some ⟨bu, 0, none⟩) ∧ q = .bool false ∧ Bx wx bu 43 #[.slice ua rs.log.length uc, .int .i64 (rs.log.length : Int), .bool true] ∧ EntsAt wx.heap.size wx ua rs.log ∧ Below w11.heap.size w11 wx)
      case first =>
        have bc := (Below.refl w11.heap.size w11).drew
        have hsz := bc.size
        have Z0 : Bx (w11.drew.alloc (.cells #[.slice none 0 0, .int .i64 0, .bool false] 43)) w11.heap.size 43 #[.slice none 0 0, .int .i64 0, .bool false] := Bx.new w11.drew _ _
        go_region_held3 (fun x : World => x.cell? ⟨bz, 0, none⟩ = some (.slice (some ⟨zg, 0, none⟩) rs.log.length zc) ∧ x.cell? ⟨bz, 1, none⟩ = some (.int .i64 (rs.log.length : Int)) ∧ x.cell? ⟨bz, 2, none⟩ = some (.bool true) ∧ x.cell? ⟨bs + 1, 0, none⟩ = some (.int .i64 e.who) ∧ x.cell? ⟨bs + 1, 1, none⟩ = some (.int .i64 e.seq) ∧ x.cell? ⟨bs + 1, 2, none⟩ = some (.int .i64 e.op.kind) ∧ x.cell? ⟨bs + 1, 3, none⟩ = some (.int .i64 e.op.id) ∧ x.cell? ⟨bs + 1, 4, none⟩ = some (.int .i64 e.op.up) ∧ x.cell? ⟨bs + 1, 5, none⟩ = some (.int .i64 e.op.at_) ∧ x.cell? ⟨bs + 1, 6, none⟩ = some (.string e.op.txt)) ((refine HSb.out _ ?_; first | (with_reducible exact bc) | (with_reducible exact bc.alloc bc.size _) | (exact below_given3 bc (by omega) _ _ _) | (exact bc.alloc bc.size _) | (exact bc))) (first
          | (go_at_call 32; (refine (HFL.out _ (by first | (with_reducible exact bc) | (exact bc.alloc bc.size _) | (exact bc))).mono ?_); rintro _ wS ⟨fa, fc, rfl, F4, hf4, bN⟩; obtain ⟨fg, rfl, FO⟩ := hf4 rfl; simp only [] at F4 FO; (first | (have Zc : Bx _ w11.heap.size 43 #[.slice none 0 0, .int .i64 0, .bool false] := Z0.below bN Z0.lt) | skip); have bc : Below w11.heap.size w11 _ := (by first | (with_reducible exact bc.trans (bN.mono bc.size)) | (exact (bc.alloc bc.size _).trans (bN.mono (bc.alloc bc.size _).size)) | (exact bc.trans (bN.mono bc.size))); have hsz := bc.size)
          | (go_at_call 29; (refine (HHL.out fg _ _ (by first | (with_reducible exact bc) | (exact bc.alloc bc.size _)) (by first | (with_reducible exact FO.hi) | (exact (FO.alloc _).hi)) (by first | (with_reducible exact FO.ents) | (exact (FO.alloc _).ents))).mono ?_); rintro _ wd ⟨va2, vc2, rfl, V4, bN⟩; simp only [] at V4; (first | (have hZ := V4.above Zc.lt) | (have hZ := V4.above (Bx.new _ _ _).lt) | skip); (first | (have Zc := Zc.below bN Zc.lt) | (have Zc := (Bx.new _ _ _).below bN (Bx.new _ _ _).lt) | skip); (first | (obtain ⟨c0, c1, c2⟩ := Zc.srv; have f0 := Zc.frozen 0; have f1 := Zc.frozen 1; have f2 := Zc.frozen 2) | skip); have bc : Below w11.heap.size w11 _ := (by first | (with_reducible exact bc.trans (bN.mono bc.size)) | (exact (bc.alloc bc.size _).trans (bN.mono (bc.alloc bc.size _).size)) | (exact bc.trans (bN.mono bc.size))); have hsz := bc.size))
        all_goals
          first
          | (have QZ := Lib.hid (((Zc.put 0 (.slice va2 rs.log.length vc2)).put 1 (.int .i64 (rs.log.length : Int))).put 2 (.bool true))
             have QV := Lib.hid ((((V4.put' hZ (.slice va2 rs.log.length vc2) (j := 0)).put' hZ (.int .i64 (rs.log.length : Int)) (j := 1)).put' hZ (.bool true) (j := 2)).ents)
             clear V4 Zc HI2 HI3 HFL HHL
             go_wp2
             go_meet
             exact ⟨_, va2, vc2, rfl, rfl, QZ.out, QV.out, below_given3 bc (by omega) _ _ _⟩)
          | (have X8 := Bx.new wd 43 #[.slice va2 rs.log.length vc2, .int .i64 (rs.log.length : Int), .bool true]
             have V8 := (V4.below ((Below.refl wd.heap.size wd).alloc (Nat.le_refl _) (.cells #[.slice va2 rs.log.length vc2, .int .i64 (rs.log.length : Int), .bool true] 43)) (Nat.le_refl _)).ents
             have bae := bc.alloc bc.size (.cells #[.slice va2 rs.log.length vc2, .int .i64 (rs.log.length : Int), .bool true] 43)
             clear V4 HI2 HI3 HFL HHL
             go_wp2
             go_meet
             exact ⟨_, va2, vc2, rfl, rfl, X8, V8, bae⟩)
      case rest =>
        obtain ⟨bu, ua, uc, rfl, rfl, U12, N12, h12⟩ := hcut
        clear HI2 HI3 HFL HHL HSb k0 k1 k2 k3 k4 k5 k6 z0 z1 z2
        generalize hw12 : wc = w12 at *
        clear hw12
        have X12 := X11.below h12 X11.lt
        have Y12 := Y11.below h12 Y11.lt
        have L12 := L11.below h12
        have G12 := (G11.below (h12.mono s11)).mono (Nat.le_trans s11 h12.size)
        have V12 := (V11.below h12).mono h12.size
        clear X11 Y11 K11 Z11 L11 G11 V11 O11 h12 s11
        obtain ⟨x0, x1, x2⟩ := X12.srv
        obtain ⟨y0, y1, y2⟩ := Y12.srv
        go_wp2_with fail
        refine (lpServer_same _ _ _ _ _ rs.log rs.safe rs.up w12 (Nat.le_refl _) V12 G12 hrl).mono ?_
        rintro _ w13 ⟨rfl, h13⟩
        have X13 := X12.below h13 X12.lt
        have U13 := U12.below h13 U12.lt
        have L13 := L12.below h13
        have G13 := (G12.below h13).mono h13.size
        have N13 := (N12.below h13).mono h13.size
        clear X12 Y12 U12 L12 G12 V12 N12 h13 x0 x1 x2 y0 y1 y2
        obtain ⟨x0, x1, x2⟩ := X13.srv
        have u0 := U13.cell 0 rfl
        go_wp2_with fail
        refine (lpLog_same _ _ _ _ _ rs.log w13 (Nat.le_refl _) N13 G13 hrl).mono ?_
        rintro _ w14 ⟨rfl, h14⟩
        have L14 := L13.below h14
        clear X13 U13 L13 G13 N13 h14 x0 x1 x2 u0
        go_wp2
        go_ret
        exact ⟨rfl, L14.low⟩
  · have i0 : ¬ (len : Int) ≤ 1048576 := by omega
    have i1 : (1048576 : Int) < (len : Int) := by omega
    go_enter Tryd.func7, Tryd.ntmps7
    go_wp2
    go_ret
    exact ⟨rfl, Below.refl _ _⟩
end Go.Proofs.YtoofdhooinaneaaDoor
