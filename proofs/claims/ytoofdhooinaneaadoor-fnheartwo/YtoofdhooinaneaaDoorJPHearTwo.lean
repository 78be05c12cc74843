/-
  The walk of the law FnHearTwo out of the contracts. Conditions: the arguments read as bytes; the table 'creators' holds what its initialiser lays.
-/
import Derived.Test.YtoofdhooinaneaaDoorJPHear
import Derived.Deep.QuietTactic
import Derived.BigQuiet
import Derived.IntWalk
namespace Go.Proofs.YtoofdhooinaneaaDoor
open Go.ChangeShapes Go.WideShapes Go.ChangeAt Go.RowKit Go.Joins

set_option maxRecDepth 100000 in
set_option maxHeartbeats 8000000 in
theorem fnHearTwo_walk (w : World) (ht : Tab w) (a : Option Addr) (len cap : Nat) (hb : Bytes w a len cap) (a2 : Option Addr) (len2 cap2 : Nat) (_hb2 : Bytes w a2 len2 cap2) :
    Calls Tryd.prog 6 #[.slice a len cap, .slice a2 len2 cap2] w fun e w' => e = .returned (.bool true) ∧ Below w.heap.size w w' := by
  by_cases hlen : len ≤ 1048576 ∧ len2 ≤ 1048576
  · have i0 : (len : Int) ≤ 1048576 := by omega
    have i02 : (len2 : Int) ≤ 1048576 := by omega
    have HD := Lib.hid (drawServerHear_any a len cap w hb)
    clear hb
    go_enter Tryd.func6, Tryd.ntmps6
    go_wp2_with fail
    refine HD.out.mono ?_
    rintro _ w1 ⟨g, oc, es, sf, up, e, rfl, hsf, hes, L1⟩
    clear HD
    have HFE := Lib.hid hes.fit
    have HS : Hid (∀ x : World, Logs w x g oc es → Calls Tryd.prog 28 #[.agg #[.slice (some ⟨g, 0, none⟩) es.length oc, .int .i64 sf, .bool up], .agg #[.int .i64 e.who, .int .i64 e.seq, .int .i64 e.op.kind, .int .i64 e.op.id, .int .i64 e.op.up, .int .i64 e.op.at_, .string e.op.txt]] x (RetHr (hearS ⟨es, sf, up⟩ e) (hearB ⟨es, sf, up⟩ e) x)) := fun x hL => specServerHear_any g 0 oc es sf up e x hL.hi hL.at_ hL.fit HFE.out hL.cap.1 hL.cap.2
    have HI : Hid (∀ x : World, Logs w x g oc es → Calls Tryd.prog 29 #[.agg #[.slice (some ⟨g, 0, none⟩) es.length oc, .int .i64 sf, .bool up], .agg #[.int .i64 e.who, .int .i64 e.seq, .int .i64 e.op.kind, .int .i64 e.op.id, .int .i64 e.op.up, .int .i64 e.op.at_, .string e.op.txt]] x (RetHr (hearS ⟨es, sf, up⟩ e) (hearB ⟨es, sf, up⟩ e) x)) := fun x hL => implServerHear_any g 0 oc es sf up e x hL.hi hL.at_ hL.fit (hL.tabS ht) HFE.out
    have hel := L1.len
    have HFT := Lib.hid L1.fit
    have hrl : (hearS ⟨es, sf, up⟩ e).log.length ≤ 1048576 := hear_len es sf up e (by omega)
    have HRS := Lib.hid (rfl : hearS ⟨es, sf, up⟩ e = hearS ⟨es, sf, up⟩ e)
    obtain ⟨rs, hrs⟩ : ∃ r, r = hearS ⟨es, sf, up⟩ e := ⟨_, rfl⟩
    obtain ⟨tb, htb⟩ : ∃ r, r = hearB ⟨es, sf, up⟩ e := ⟨_, rfl⟩
    rw [← hrs] at hrl
    rw [← hrs, ← htb] at HS HI
    have HRE := Lib.hid hrs
    have HTB := Lib.hid htb
    clear hrs htb HRS hes
    have al : Below w1.heap.size w1 ((w1.alloc (.cells #[.slice (some ⟨g, 0, none⟩) es.length oc, .int .i64 sf, .bool up] 43)).alloc (.cells #[.int .i64 e.who, .int .i64 e.seq, .int .i64 e.op.kind, .int .i64 e.op.id, .int .i64 e.op.up, .int .i64 e.op.at_, .string e.op.txt] 52)) := ((Below.refl _ _).alloc (Nat.le_refl _) _).alloc (by simp) _
    have A2 := (Bx.new w1 43 #[.slice (some ⟨g, 0, none⟩) es.length oc, .int .i64 sf, .bool up]).alloc (.cells #[.int .i64 e.who, .int .i64 e.seq, .int .i64 e.op.kind, .int .i64 e.op.id, .int .i64 e.op.up, .int .i64 e.op.at_, .string e.op.txt] 52)
    have K2 := Bx.new (w1.alloc (.cells #[.slice (some ⟨g, 0, none⟩) es.length oc, .int .i64 sf, .bool up] 43)) 52 #[.int .i64 e.who, .int .i64 e.seq, .int .i64 e.op.kind, .int .i64 e.op.id, .int .i64 e.op.up, .int .i64 e.op.at_, .string e.op.txt]
    have hs1 : (w1.alloc (.cells #[.slice (some ⟨g, 0, none⟩) es.length oc, .int .i64 sf, .bool up] 43)).heap.size = w1.heap.size + 1 := by simp
    rw [hs1] at K2
    have L2 := L1.below al
    clear L1 al hs1
    go_upto_region 4 with fail
    generalize ((w1.alloc (.cells #[.slice (some ⟨g, 0, none⟩) es.length oc, .int .i64 sf, .bool up] 43)).alloc (.cells #[.int .i64 e.who, .int .i64 e.seq, .int .i64 e.op.kind, .int .i64 e.op.id, .int .i64 e.op.up, .int .i64 e.op.at_, .string e.op.txt] 52)) = w2 at *
    generalize w1.heap.size = bs at *
    obtain ⟨x0, x1, x2⟩ := A2.srv
    have e0 := K2.cell 0 rfl
    have e1 := K2.cell 1 rfl
    have e2 := K2.cell 2 rfl
    have e3 := K2.cell 3 rfl
    have e4 := K2.cell 4 rfl
    have e5 := K2.cell 5 rfl
    have e6 := K2.cell 6 rfl
    go_wp2_with fail
    refine (HS.out w2 L2).mono ?_
    rintro _ w3 ⟨wa, wk, rfl, V3, h3⟩
    have al := (Below.refl w3.heap.size w3).alloc (Nat.le_refl _) (.cells #[.slice wa rs.log.length wk, .int .i64 rs.safe, .bool rs.up] 43)
    have W4 := Bx.new w3 43 #[.slice wa rs.log.length wk, .int .i64 rs.safe, .bool rs.up]
    have A4 := (A2.below h3 A2.lt).below al (A2.below h3 A2.lt).lt
    have K4 := (K2.below h3 K2.lt).below al (K2.below h3 K2.lt).lt
    have L4 := (L2.below h3).below al
    have V4 := (V3.below al (Nat.le_refl _)).ents
    clear A2 K2 L2 V3 h3 al x0 x1 x2 e0 e1 e2 e3 e4 e5 e6 HS
    go_upto_region 5 with fail
    generalize w3.alloc (.cells #[.slice wa rs.log.length wk, .int .i64 rs.safe, .bool rs.up] 43) = w4 at *
    generalize w3.heap.size = bw at *
    obtain ⟨x0, x1, x2⟩ := A4.srv
    have e0 := K4.cell 0 rfl
    have e1 := K4.cell 1 rfl
    have e2 := K4.cell 2 rfl
    have e3 := K4.cell 3 rfl
    have e4 := K4.cell 4 rfl
    have e5 := K4.cell 5 rfl
    have e6 := K4.cell 6 rfl
    go_wp2_with fail
    refine (HI.out w4 L4).mono ?_
    rintro _ w5 ⟨xa, xc, rfl, G5, h5⟩
    have al := (Below.refl w5.heap.size w5).alloc (Nat.le_refl _) (.cells #[.slice xa rs.log.length xc, .int .i64 rs.safe, .bool rs.up] 43)
    have X6 := Bx.new w5 43 #[.slice xa rs.log.length xc, .int .i64 rs.safe, .bool rs.up]
    have A6 := (A4.below h5 A4.lt).below al (A4.below h5 A4.lt).lt
    have K6 := (K4.below h5 K4.lt).below al (K4.below h5 K4.lt).lt
    have W6 := (W4.below h5 W4.lt).below al (W4.below h5 W4.lt).lt
    have L6 := (L4.below h5).below al
    have V6 := (((V4.below h5).mono h5.size).below al).mono al.size
    have J6 := G5.below al (Nat.le_refl _)
    have G6 := J6.ents
    have hs46 := Nat.le_trans h5.size al.size
    clear A4 K4 W4 L4 V4 G5 h5 al x0 x1 x2 e0 e1 e2 e3 e4 e5 e6 HI
    go_upto_region 6 with fail
    generalize w5.alloc (.cells #[.slice xa rs.log.length xc, .int .i64 rs.safe, .bool rs.up] 43) = w6 at *
    generalize w5.heap.size = bx at *
    have hsz0 := Lib.hid hs46
    clear hs46 hsz0
    obtain ⟨x0, x1, x2⟩ := X6.srv
    obtain ⟨y0, y1, y2⟩ := W6.srv
    go_wp2_with fail
    refine (lpServer_same _ _ _ _ _ rs.log rs.safe rs.up w6 (Nat.le_refl _) G6 V6 hrl).mono ?_
    rintro _ w7 ⟨rfl, h7⟩
    have X7 := X6.below h7 X6.lt
    have A7 := A6.below h7 A6.lt
    have K7 := K6.below h7 K6.lt
    have W7 := W6.below h7 W6.lt
    have L7 := L6.below h7
    have V7 := (V6.below h7).mono h7.size
    have G7 := (G6.below h7).mono h7.size
    have J7 := J6.below h7 (Nat.le_refl _)
    clear X6 A6 K6 W6 L6 V6 G6 J6 h7
    clear x0 x1 x2 y0 y1 y2
    cases tb
    · obtain ⟨x0, x1, x2⟩ := X7.srv
      obtain ⟨y0, y1, y2⟩ := W7.srv
      clear HRE HTB
      go_wp2_with fail
      refine (lpServer_same _ _ _ _ _ rs.log rs.safe rs.up w7 (Nat.le_refl _) G7 V7 hrl).mono ?_
      rintro _ w9 ⟨rfl, h9⟩
      have L9 := L7.below h9
      go_wp2
      go_ret
      exact ⟨rfl, L9.low⟩
    · have hbt : hearB ⟨es, sf, up⟩ e = true := HTB.out.symm
      obtain ⟨q1, q2, q3, q4, q5, q6⟩ := hear_is hbt
      have hrs : rs = ⟨es ++ [e], sf, up⟩ := by rw [HRE.out, q6]
      simp only [] at q3 q4
      have hlg : logB es = true := (srv_iff.1 q1).1
      have hwe := ent_who q2
      have hv1 : srvB (⟨es ++ [e], sf, up⟩ : SrvD) = true := srv_snoc q1 q2 q4
      have HQ : Hid (srvB (⟨es, sf, up⟩ : SrvD) = true ∧ entB e = true ∧ up = true ∧ nextB es e = true ∧ logB es = true ∧ srvB (⟨es ++ [e], sf, up⟩ : SrvD) = true) := ⟨q1, q2, q3, q4, hlg, hv1⟩
      have HRS := Lib.hid hrs
      obtain ⟨he1, he2⟩ := hwe
      have hw1 : 1 ≤ (e.who + (len2 : Int) % 2) % 3 + 1 := by omega
      have hw2 : (e.who + (len2 : Int) % 2) % 3 + 1 ≤ 3 := by omega
      have hm0 : 0 ≤ (len2 : Int) % 2 := by omega
      have hm1 : (len2 : Int) % 2 ≤ 1 := by omega
      have hm2 : 0 ≤ e.who + (len2 : Int) % 2 := by omega
      have hm3 : 0 ≤ (e.who + (len2 : Int) % 2) % 3 := by omega
      have hm4 : (e.who + (len2 : Int) % 2) % 3 ≤ 2 := by omega
      have hm5 : 0 ≤ (len2 : Int) := by omega
      clear hbt q1 q2 q3 q4 q5 q6 hrs hlg hv1 HRE HTB W7 V7
      have e0 : w7.cell? ⟨bs + 1, 0, none⟩ = some (.int .i64 e.who) := K7.cell 0 rfl
      go_upto_region 9 with fail
      generalize (e.who + (len2 : Int) % 2) % 3 + 1 = wh at *
      clear e0 hm0 hm1 hm2 hm3 hm4 hm5
      obtain ⟨x0, x1, x2⟩ := A7.srv
      go_wp2_with fail
      refine (implLogSeq_any w7.heap.size _ oc es wh w7 (Nat.le_refl _) L7.at_ L7.fit (L7.tabS ht) (by unfold I64; omega)).mono ?_
      rintro _ w8 ⟨rfl, h8⟩
      have hsq : lseqI es wh = (cntTo es wh es.length : Int) := by unfold lseqI; rw [HQ.out.2.2.2.2.1]; rfl
      rw [hsq]
      have hcn := cntTo_le es wh es.length
      have HCN : Hid (∀ z : Int, z = (cntTo es wh es.length : Int) + 1 → ∀ o : OpD, es.length < 40 → nextB es ⟨wh, z, o⟩ = true) := fun z hz o hl => by
        simp only [nextB, Bool.and_eq_true, beq_iff_eq, decide_eq_true_eq]; exact ⟨hz, hl⟩
      generalize cntTo es wh es.length = cn at *
      clear hsq
      have D9 : Below w7.heap.size w7 (w8.alloc (.cells #[.int .i64 wh, .int .i64 ((cn : Int) + 1), .int .i64 2, .int .i64 11, .int .i64 0, .int .i64 0, .string ⟨#[100]⟩] 52)) := h8.alloc h8.size _
      have F9 := Bx.new w8 52 #[.int .i64 wh, .int .i64 ((cn : Int) + 1), .int .i64 2, .int .i64 11, .int .i64 0, .int .i64 0, .string ⟨#[100]⟩]
      have A9 := A7.below D9 A7.lt
      have X9 := X7.below D9 X7.lt
      have K9 := K7.below D9 K7.lt
      have L9 := L7.below D9
      have G9 := (G7.below D9).mono D9.size
      have J9 := J7.below D9 (Nat.le_refl _)
      clear A7 X7 K7 L7 G7 J7 D9 h8 x0 x1 x2
      go_upto_region 10 with fail
      generalize w8.alloc (.cells #[.int .i64 wh, .int .i64 ((cn : Int) + 1), .int .i64 2, .int .i64 11, .int .i64 0, .int .i64 0, .string ⟨#[100]⟩] 52) = w9 at *
      generalize w8.heap.size = bf at *
      have e0 : w9.cell? ⟨bs + 1, 0, none⟩ = some (.int .i64 e.who) := K9.cell 0 rfl
      obtain ⟨x0, x1, x2⟩ := A9.srv
      by_cases hwq : wh = e.who
      · have hwq' := hwq.symm
        have L9' := L9.low
        subst hwq
        go_wp2
        go_ret
        exact ⟨rfl, L9'⟩
      · have hwb : (wh == e.who) = false := beq_eq_false_iff_ne.2 hwq
        by_cases hl2 : es.length + 2 ≤ 40
        · have i4 : (es.length : Int) + 2 ≤ 40 := by omega
          have i5 : (es.length : Int) ≤ 38 := by omega
          obtain ⟨fe, hfe⟩ : ∃ f : EntD, f = ⟨wh, (cn : Int) + 1, ⟨2, 11, 0, 0, ⟨#[100]⟩⟩⟩ := ⟨_, rfl⟩
          have hef : entB fe = true := by
            rw [hfe]
            have h1 : opokB (⟨2, 11, 0, 0, ⟨#[100]⟩⟩ : OpD) = true := by decide +kernel
            have h2 : inB wh 1 3 = true := (inB_iff _ _ _).2 ⟨hw1, hw2⟩
            have h3 : inB ((cn : Int) + 1) 1 40 = true := (inB_iff _ _ _).2 ⟨by omega, by omega⟩
            simp only [entB, mineB, h1, h2, h3]; rfl
          have hnf : nextB es fe = true := by rw [hfe]; exact HCN.out _ rfl _ (by omega)
          have hof : OpFit (⟨2, 11, 0, 0, ⟨#[100]⟩⟩ : OpD) := ⟨by unfold I64; decide, by unfold I64; decide, by unfold I64; decide, by unfold maxLen; decide⟩
          have hff : EFit fe := by
            rw [hfe]; exact ⟨by unfold I64; show -9223372036854775808 ≤ wh ∧ wh ≤ 9223372036854775807; omega, by unfold I64; show -9223372036854775808 ≤ (cn : Int) + 1 ∧ (cn : Int) + 1 ≤ 9223372036854775807; omega, hof⟩
          have hfw : fe.who = wh := by rw [hfe]
          obtain ⟨q1, q2, q3, q4, q5, q6⟩ := HQ.out
          have HY : Hid (hearS ⟨es ++ [e], sf, up⟩ fe = ⟨es ++ [e] ++ [fe], sf, up⟩ ∧ hearB ⟨es ++ [e], sf, up⟩ fe = true) := by
            have := hear_next q6 hef q3 (next_other hnf (by rw [hfw]; exact fun q => hwq q.symm) (by omega))
            exact ⟨this.2, this.1⟩
          have HZ1 : Hid (hearS ⟨es, sf, up⟩ fe = ⟨es ++ [fe], sf, up⟩ ∧ hearB ⟨es, sf, up⟩ fe = true) := by
            have := hear_next q1 hef q3 hnf
            exact ⟨this.2, this.1⟩
          have HZ2 : Hid (hearS ⟨es ++ [fe], sf, up⟩ e = ⟨es ++ [fe] ++ [e], sf, up⟩ ∧ hearB ⟨es ++ [fe], sf, up⟩ e = true) := by
            have := hear_next (srv_snoc q1 hef hnf) q2 q3 (next_other (es := es) q4 (by rw [hfw]; exact hwq) (by show es.length + 1 < 40; omega))
            exact ⟨this.2, this.1⟩
          have HFS1 := Lib.hid (fit_snoc HFT.out (by omega) HFE.out)
          have HFS2 := Lib.hid (fit_snoc HFT.out (by omega) hff)
          have HFF := Lib.hid hff
          have F9' : Bx w9 bf 52 #[.int .i64 fe.who, .int .i64 fe.seq, .int .i64 fe.op.kind, .int .i64 fe.op.id, .int .i64 fe.op.up, .int .i64 fe.op.at_, .string fe.op.txt] := by rw [hfe]; exact F9
          have HRL := Lib.hid HRS.out
          have hrs := HRS.out
          subst hrs
          have hlx : (es ++ [e]).length = es.length + 1 := by simp
          obtain ⟨lx, hlxd⟩ : ∃ l, l = es ++ [e] := ⟨_, rfl⟩
          obtain ⟨ly, hlyd⟩ : ∃ l, l = lx ++ [fe] := ⟨_, rfl⟩
          obtain ⟨l1, hl1d⟩ : ∃ l, l = es ++ [fe] := ⟨_, rfl⟩
          obtain ⟨lz, hlzd⟩ : ∃ l, l = l1 ++ [e] := ⟨_, rfl⟩
          have hlyl : ly.length = es.length + 2 := by rw [hlyd, hlxd]; simp
          have hlzl : lz.length = es.length + 2 := by rw [hlzd, hl1d]; simp
          have hl1l : l1.length ≤ 40 := by rw [hl1d]; simp; omega
          have hl1p : 0 < l1.length := by rw [hl1d]; simp
          have hyn : eat ly es.length = e ∧ eat ly (es.length + 1) = fe := by
            rw [hlyd, hlxd]
            refine ⟨by rw [eat_app_left (by simp), eat_app_last], ?_⟩
            have := eat_app_last (es ++ [e]) fe
            rwa [hlx] at this
          have hzn : eat lz es.length = fe ∧ eat lz (es.length + 1) = e := by
            rw [hlzd, hl1d]
            refine ⟨by rw [eat_app_left (by simp), eat_app_last], ?_⟩
            have := eat_app_last (es ++ [fe]) e
            rwa [show (es ++ [fe]).length = es.length + 1 by simp] at this
          rw [← hlxd, ← hlyd] at HY
          rw [← hl1d] at HZ1
          rw [← hl1d, ← hlzd] at HZ2
          rw [← hlxd] at HFS1
          rw [← hl1d] at HFS2
          simp only [← hlxd] at X9 G9 J9 hrl
          have HYN := Lib.hid hyn
          have HZN := Lib.hid hzn
          have HYL := Lib.hid hlyl
          have HZL := Lib.hid hlzl
          rcases J9 with jz | ⟨xg, C, rfl, hxg, hox⟩
          · rw [hlxd, hlx] at jz; omega
          have hxl := hox.lt
          have HI2 : Hid (∀ x : World, w9.heap.size ≤ x.heap.size → EntsAt w9.heap.size x (some ⟨xg, 0, none⟩) lx → Tab x → Calls Tryd.prog 29 #[.agg #[.slice (some ⟨xg, 0, none⟩) lx.length xc, .int .i64 sf, .bool up], .agg #[.int .i64 fe.who, .int .i64 fe.seq, .int .i64 fe.op.kind, .int .i64 fe.op.id, .int .i64 fe.op.up, .int .i64 fe.op.at_, .string fe.op.txt]] x (RetHr ⟨ly, sf, up⟩ true x)) := fun x hs hx htx => by
            have := implServerHear_any xg 0 xc lx sf up fe x (Nat.lt_of_lt_of_le hxl hs) (hx.mono hs) HFS1.out htx HFF.out
            rw [HY.out.1, HY.out.2] at this
            exact this
          have HI3 : Hid (∀ x : World, Logs w x g oc es → Calls Tryd.prog 29 #[.agg #[.slice (some ⟨g, 0, none⟩) es.length oc, .int .i64 sf, .bool up], .agg #[.int .i64 fe.who, .int .i64 fe.seq, .int .i64 fe.op.kind, .int .i64 fe.op.id, .int .i64 fe.op.up, .int .i64 fe.op.at_, .string fe.op.txt]] x (RetHr ⟨l1, sf, up⟩ true x)) := fun x hL => by
            have := implServerHear_any g 0 oc es sf up fe x hL.hi hL.at_ hL.fit (hL.tabS ht) HFF.out
            rw [HZ1.out.1, HZ1.out.2] at this
            exact this
          have HI4 : Hid (∀ (zg zc : Nat) (x : World), zg < x.heap.size → EntsAt x.heap.size x (some ⟨zg, 0, none⟩) l1 → Tab x → Calls Tryd.prog 29 #[.agg #[.slice (some ⟨zg, 0, none⟩) l1.length zc, .int .i64 sf, .bool up], .agg #[.int .i64 e.who, .int .i64 e.seq, .int .i64 e.op.kind, .int .i64 e.op.id, .int .i64 e.op.up, .int .i64 e.op.at_, .string e.op.txt]] x (RetHr ⟨lz, sf, up⟩ true x)) := fun zg zc x h1 h2 h3 => by
            have := implServerHear_any zg 0 zc l1 sf up e x h1 h2 HFS2.out h3 HFE.out
            rw [HZ2.out.1, HZ2.out.2] at this
            exact this
          simp only [hfe] at HI2 HI3
          clear hef hnf hfw hff HY HZ1 HZ2 HFS1 HFS2 HFF HRL HRS HQ hlxd hlyd hl1d hlzd hyn hzn hlyl hlzl hlx hox q1 q2 q3 q4 q5 q6 HCN F9'
          go_upto_region 12 with fail
          clear e0 x0 x1 x2
          obtain ⟨x0, x1, x2⟩ := X9.srv
          have f0 := F9.cell 0 rfl
          have f1 := F9.cell 1 rfl
          have f2 := F9.cell 2 rfl
          have f3 := F9.cell 3 rfl
          have f4 := F9.cell 4 rfl
          have f5 := F9.cell 5 rfl
          have f6 := F9.cell 6 rfl
          go_wp2_with fail
          refine (HI2.out w9 (Nat.le_refl _) G9 (L9.tabS ht)).mono ?_
          rintro _ wa ⟨ya, yc, rfl, Y0, h0⟩
          simp only [] at Y0
          have D10 : Below w9.heap.size w9 (wa.alloc (.cells #[.slice ya ly.length yc, .int .i64 sf, .bool up] 43)) := h0.alloc h0.size _
          have Y10 := Bx.new wa 43 #[.slice ya ly.length yc, .int .i64 sf, .bool up]
          have A10 := A9.below D10 A9.lt
          have K10 := K9.below D10 K9.lt
          have F10 := F9.below D10 F9.lt
          have L10 := L9.below D10
          have N10 := Y0.below ((Below.refl wa.heap.size wa).alloc (Nat.le_refl _) (.cells #[.slice ya ly.length yc, .int .i64 sf, .bool up] 43)) (Nat.le_refl _)
          clear A9 X9 K9 F9 L9 G9 Y0 h0 D10 x0 x1 x2 f0 f1 f2 f3 f4 f5 f6 HI2
          go_upto_region 13 with fail
          generalize wa.alloc (.cells #[.slice ya ly.length yc, .int .i64 sf, .bool up] 43) = w10 at *
          generalize wa.heap.size = by10 at *
          obtain ⟨x0, x1, x2⟩ := A10.srv
          have f0 := F10.cell 0 rfl
          have f1 := F10.cell 1 rfl
          have f2 := F10.cell 2 rfl
          have f3 := F10.cell 3 rfl
          have f4 := F10.cell 4 rfl
          have f5 := F10.cell 5 rfl
          have f6 := F10.cell 6 rfl
          go_wp2_with fail
          refine (HI3.out w10 L10).mono ?_
          rintro _ wb ⟨za, zc, rfl, Z0, h0⟩
          simp only [] at Z0
          have al := (Below.refl wb.heap.size wb).alloc (Nat.le_refl _) (.cells #[.slice za l1.length zc, .int .i64 sf, .bool up] 43)
          have D11 : Below w10.heap.size w10 (wb.alloc (.cells #[.slice za l1.length zc, .int .i64 sf, .bool up] 43)) := h0.alloc h0.size _
          have Z11 := Bx.new wb 43 #[.slice za l1.length zc, .int .i64 sf, .bool up]
          have A11 := A10.below D11 A10.lt
          have K11 := K10.below D11 K10.lt
          have F11 := F10.below D11 F10.lt
          have Y11 := Y10.below D11 Y10.lt
          have L11 := L10.below D11
          have hNne := (N10.below h0 (Nat.le_refl _)).ne (Nat.le_refl wb.heap.size)
          have N11 := N10.below D11 (Nat.le_refl _)
          have hbzw : w.heap.size ≤ wb.heap.size := Nat.le_trans L10.low.size h0.size
          have hyz : by10 < wb.heap.size := (Y10.below h0 Y10.lt).lt
          have haz : bs < wb.heap.size := (A10.below h0 A10.lt).lt
          have hkz : bs + 1 < wb.heap.size := (K10.below h0 K10.lt).lt
          have hfz : bf < wb.heap.size := (F10.below h0 F10.lt).lt
          have M11 := Z0.below al (Nat.le_refl _)
          rcases M11 with mz | ⟨zg, C2, rfl, hzg, hoz⟩
          · omega
          have E11 := hoz.at_ hoz.lt
          have hzl := hoz.lt
          clear A10 K10 F10 Y10 L10 N10 Z0 h0 al D11 x0 x1 x2 f0 f1 f2 f3 f4 f5 f6 HI3 hoz
          go_upto_region 14 with fail
          generalize wb.alloc (.cells #[.slice (some ⟨zg, 0, none⟩) l1.length zc, .int .i64 sf, .bool up] 43) = w11 at *
          generalize wb.heap.size = bz at *
          obtain ⟨z0, z1, z2⟩ := Z11.srv
          have e0 := K11.cell 0 rfl
          have e1 := K11.cell 1 rfl
          have e2 := K11.cell 2 rfl
          have e3 := K11.cell 3 rfl
          have e4 := K11.cell 4 rfl
          have e5 := K11.cell 5 rfl
          have e6 := K11.cell 6 rfl
          go_wp2_with fail
          refine (HI4.out zg zc w11 hzl E11 (L11.tabS ht)).mono ?_
          rintro _ wd ⟨za3, zc3, rfl, Z3, h0⟩
          simp only [] at Z3
          have Z12 := Z11.below h0 Z11.lt
          have A12 := A11.below h0 A11.lt
          have K12 := K11.below h0 K11.lt
          have F12 := F11.below h0 F11.lt
          have Y12 := Y11.below h0 Y11.lt
          have L12 := L11.below h0
          have N12 := N11.below h0 (Nat.le_refl _)
          have hZ := Z3.above Z11.lt
          clear A11 K11 F11 Y11 L11 N11 Z11 E11 h0 z0 z1 z2 e0 e1 e2 e3 e4 e5 e6 HI4
          obtain ⟨z0, z1, z2⟩ := Z12.srv
          have f0 := Z12.frozen 0
          have f1 := Z12.frozen 1
          have f2 := Z12.frozen 2
          have Z13 : Bx (((wd.setCell ⟨bz, 0, none⟩ (.slice za3 lz.length zc3)).setCell ⟨bz, 1, none⟩ (.int .i64 sf)).setCell ⟨bz, 2, none⟩ (.bool up)) bz 43 #[.slice za3 lz.length zc3, .int .i64 sf, .bool up] := ((Z12.put 0 _).put 1 _).put 2 _
          have M13 := (((Z3.put' hZ (.slice za3 lz.length zc3) (j := 0)).put' hZ (.int .i64 sf) (j := 1)).put' hZ (.bool up) (j := 2)).ents
          have N13 := (((N12.put' hNne (.slice za3 lz.length zc3) (j := 0)).put' hNne (.int .i64 sf) (j := 1)).put' hNne (.bool up) (j := 2)).ents
          have A13 : Bx (((wd.setCell ⟨bz, 0, none⟩ (.slice za3 lz.length zc3)).setCell ⟨bz, 1, none⟩ (.int .i64 sf)).setCell ⟨bz, 2, none⟩ (.bool up)) bs 43 _ := ((A12.other (by omega) _).other (by omega) _).other (by omega) _
          have K13 : Bx (((wd.setCell ⟨bz, 0, none⟩ (.slice za3 lz.length zc3)).setCell ⟨bz, 1, none⟩ (.int .i64 sf)).setCell ⟨bz, 2, none⟩ (.bool up)) (bs + 1) 52 _ := ((K12.other (by omega) _).other (by omega) _).other (by omega) _
          have F13 : Bx (((wd.setCell ⟨bz, 0, none⟩ (.slice za3 lz.length zc3)).setCell ⟨bz, 1, none⟩ (.int .i64 sf)).setCell ⟨bz, 2, none⟩ (.bool up)) bf 52 _ := ((F12.other (by omega) _).other (by omega) _).other (by omega) _
          have Y13 : Bx (((wd.setCell ⟨bz, 0, none⟩ (.slice za3 lz.length zc3)).setCell ⟨bz, 1, none⟩ (.int .i64 sf)).setCell ⟨bz, 2, none⟩ (.bool up)) by10 43 _ := ((Y12.other (by omega) _).other (by omega) _).other (by omega) _
          have L13 : Below w.heap.size w (((wd.setCell ⟨bz, 0, none⟩ (.slice za3 lz.length zc3)).setCell ⟨bz, 1, none⟩ (.int .i64 sf)).setCell ⟨bz, 2, none⟩ (.bool up)) := below_given3 L12.low hbzw _ _ _
          go_upto_region 15 with fail
          generalize (((wd.setCell ⟨bz, 0, none⟩ (.slice za3 lz.length zc3)).setCell ⟨bz, 1, none⟩ (.int .i64 sf)).setCell ⟨bz, 2, none⟩ (.bool up)) = w13 at *
          clear A12 K12 F12 Y12 L12 N12 Z12 Z3 z0 z1 z2 f0 f1 f2 hNne hZ
          have x0 := A13.cell 0 rfl
          have y0 := Y13.cell 0 rfl
          have z0 := Z13.cell 0 rfl
          have e0 := K13.cell 0 rfl
          have e1 := K13.cell 1 rfl
          have e2 := K13.cell 2 rfl
          have e3 := K13.cell 3 rfl
          have e4 := K13.cell 4 rfl
          have e5 := K13.cell 5 rfl
          have e6 := K13.cell 6 rfl
          have f0 := F13.cell 0 rfl
          have f1 := F13.cell 1 rfl
          have f2 := F13.cell 2 rfl
          have f3 := F13.cell 3 rfl
          have f4 := F13.cell 4 rfl
          have f5 := F13.cell 5 rfl
          have f6 := F13.cell 6 rfl
          have hyl := HYL.out
          have hzl2 := HZL.out
          obtain ⟨b1, o1, rfl, hb1, c0, c1, c2, c3, c4, c5, c6⟩ := N13.at_ (i := es.length) (by omega)
          obtain ⟨b1', o1', hbe, hb1', d0, d1, d2, d3, d4, d5, d6⟩ := N13.at_ (i := es.length + 1) (by omega)
          cases hbe
          obtain ⟨b2, o2, rfl, hb2, p0, p1, p2, p3, p4, p5, p6⟩ := M13.at_ (i := es.length) (by omega)
          obtain ⟨b2', o2', hbe, hb2', r0, r1, r2, r3, r4, r5, r6⟩ := M13.at_ (i := es.length + 1) (by omega)
          cases hbe
          rw [HYN.out.1] at c0 c1 c2 c3 c4 c5 c6
          rw [HYN.out.2, hfe] at d0 d1 d2 d3 d4 d5 d6
          rw [HZN.out.1, hfe] at p0 p1 p2 p3 p4 p5 p6
          rw [HZN.out.2] at r0 r1 r2 r3 r4 r5 r6
          simp only [] at d0 d1 d2 d3 d4 d5 d6 p0 p1 p2 p3 p4 p5 p6
          have j1 : (es.length : Int) < (ly.length : Int) := by omega
          have j2 : (es.length : Int) + 1 < (ly.length : Int) := by omega
          have j3 : (es.length : Int) < (lz.length : Int) := by omega
          have j4 : (es.length : Int) + 1 < (lz.length : Int) := by omega
          have j5 : (0 : Int) ≤ (es.length : Int) := by omega
          have j6 : (0 : Int) ≤ (es.length : Int) + 1 := by omega
          have j7 : IntKind.i64.wrap ((es.length : Int) + 1) = (es.length : Int) + 1 := IntWalk.i64_in _ (by omega)
          have j8 : ((es.length : Int) + 1).toNat = es.length + 1 := by omega
          clear HYN HZN HYL HZL hyl hzl2 N13 M13 hb1 hb1' hb2 hb2' A13 Y13 Z13 K13 F13 hfe
          go_upto_region 16 with fail
          go_quiet (fail)
          go_wp2
          go_ret
          exact ⟨rfl, ⟨L13.os, L13.tape, L13.output, L13.size, L13.block⟩⟩
        · omega
  · by_cases hl1 : len ≤ 1048576
    · have i0 : (len : Int) ≤ 1048576 := by omega
      have i1 : ¬ (len2 : Int) ≤ 1048576 := by omega
      go_enter Tryd.func6, Tryd.ntmps6
      go_wp2
      go_ret
      exact ⟨rfl, Below.refl _ _⟩
    have i0 : ¬ (len : Int) ≤ 1048576 := by omega
    go_enter Tryd.func6, Tryd.ntmps6
    go_wp2
    go_ret
    exact ⟨rfl, Below.refl _ _⟩
end Go.Proofs.YtoofdhooinaneaaDoor
