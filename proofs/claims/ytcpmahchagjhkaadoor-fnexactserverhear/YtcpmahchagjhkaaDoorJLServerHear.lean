/-
  The walk of the law FnExactServerHear out of the contracts. Conditions: the arguments read as a server and an entry; the table 'creators' holds what its initialiser lays.
-/
import Derived.Test.YtcpmahchagjhkaaDoorGV
import Derived.Test.YtcpmahchagjhkaaDoorGW
import Derived.Deep.RegionHeld3
namespace Go.Proofs.YtcpmahchagjhkaaDoor
open Go.ChangeShapes Go.WideShapes Go.ChangeAt Go.RowKit Go.Joins Go.Deep

theorem hearS_len (es : List EntD) (sf : Int) (up : Bool) (e : EntD) (hl : es.length ≤ 1048576) : (hearS ⟨es, sf, up⟩ e).log.length ≤ 1048576 := by
  cases h : hearOk ⟨es, sf, up⟩ e
  · rw [(hear_no h).1]; decide
  · rw [(hear_new h).1]
    simp only []
    have h1 := hL_len up es e
    have h2 : es.length ≤ 40 := by
      have h3 := hearOk_add h
      simp only [okAdd, Bool.and_eq_true] at h3
      exact logB_len h3.1
    omega
set_option maxRecDepth 100000 in
set_option maxHeartbeats 8000000 in
theorem fnExactServerHear_walk (w : World) (ht : Tab w) (a : Option Addr) (cap : Nat) (es : List EntD) (sf : Int) (up : Bool) (hm : es.length ≤ maxLen) (h : EntsAt w.heap.size w a es) (hf : ∀ i, i < es.length → EFit (eat es i)) (en : EntD) (ho : EFit en) :
    Calls Tryd.prog 7 #[.agg #[.slice a es.length cap, .int .i64 sf, .bool up], .agg #[.int .i64 en.who, .int .i64 en.seq, .int .i64 en.op.kind, .int .i64 en.op.id, .int .i64 en.op.up, .int .i64 en.op.at_, .string en.op.txt]] w fun e w' => e = .returned (.bool true) ∧ Below w.heap.size w w' := by
  have hz := ht.pos
  have al : Below w.heap.size w ((w.alloc (.cells #[.slice a es.length cap, .int .i64 sf, .bool up] 54)).alloc (.cells #[.int .i64 en.who, .int .i64 en.seq, .int .i64 en.op.kind, .int .i64 en.op.id, .int .i64 en.op.up, .int .i64 en.op.at_, .string en.op.txt] 56)) := ((Below.refl _ _).alloc (Nat.le_refl _) _).alloc (by simp) _
  have A0 := (Bx.new w 54 #[.slice a es.length cap, .int .i64 sf, .bool up]).alloc (.cells #[.int .i64 en.who, .int .i64 en.seq, .int .i64 en.op.kind, .int .i64 en.op.id, .int .i64 en.op.up, .int .i64 en.op.at_, .string en.op.txt] 56)
  have K0 := Bx.new (w.alloc (.cells #[.slice a es.length cap, .int .i64 sf, .bool up] 54)) 56 #[.int .i64 en.who, .int .i64 en.seq, .int .i64 en.op.kind, .int .i64 en.op.id, .int .i64 en.op.up, .int .i64 en.op.at_, .string en.op.txt]
  have hs1 : (w.alloc (.cells #[.slice a es.length cap, .int .i64 sf, .bool up] 54)).heap.size = w.heap.size + 1 := by simp
  rw [hs1] at K0
  clear hs1
  go_enter Tryd.func7, Tryd.ntmps7
  go_upto_region 1 with fail
  generalize ((w.alloc (.cells #[.slice a es.length cap, .int .i64 sf, .bool up] 54)).alloc (.cells #[.int .i64 en.who, .int .i64 en.seq, .int .i64 en.op.kind, .int .i64 en.op.id, .int .i64 en.op.up, .int .i64 en.op.at_, .string en.op.txt] 56)) = w0 at *
  obtain ⟨x0, x1, x2⟩ := A0.srv
  go_wp2_with fail
  refine (szServer_any w.heap.size a cap es sf up w0 al.size (h.below al) hf hm).mono ?_
  rintro _ w1 ⟨z, rfl, hz', b1⟩
  have L1 := al.trans (b1.mono al.size)
  have A1 := A0.below b1 A0.lt
  have K1 := K0.below b1 K0.lt
  clear al A0 K0 b1 x0 x1 x2
  rcases hz' with hneg | ⟨hpos, hz1, hl⟩
  · go_wp2
    go_ret
    exact ⟨rfl, L1⟩
  · have hfit := Lib.hid (show EntsFit es from ⟨hl, hf⟩)
    have k0 := K1.cell 0 rfl
    have k1 := K1.cell 1 rfl
    have k2 := K1.cell 2 rfl
    have k3 := K1.cell 3 rfl
    have k4 := K1.cell 4 rfl
    have k5 := K1.cell 5 rfl
    have k6 := K1.cell 6 rfl
    go_wp2_with fail
    refine (szEntry_any en z _ ho.op.txt hz1 hpos).mono ?_
    rintro _ w2 ⟨z2, _, rfl, b2⟩
    have L2 := L1.trans (b2.mono L1.size)
    have A2 := A1.below b2 A1.lt
    have K2 := K1.below b2 K1.lt
    clear L1 A1 K1 b2 k0 k1 k2 k3 k4 k5 k6
    by_cases hz2 : z2 < 0
    · go_wp2
      go_ret
      exact ⟨rfl, L2⟩
    · have HT : Hid (∀ x, Below w.heap.size w x → Calls Tryd.prog 33 #[.agg #[.slice a es.length cap, .int .i64 sf, .bool up]] x (RetToSrv es sf up x)) := fun x hx => toServer_any w.heap.size a cap es sf up x hx.size (h.below hx) hl
      have HS : Hid (∀ (g : Nat) (x : World), g < x.heap.size → EntsAt x.heap.size x (some ⟨g, 0, none⟩) es → Calls Tryd.prog 32 #[.agg #[.slice (some ⟨g, 0, none⟩) es.length es.length, .int .i64 sf, .bool up], .agg #[.int .i64 en.who, .int .i64 en.seq, .int .i64 en.op.kind, .int .i64 en.op.id, .int .i64 en.op.up, .int .i64 en.op.at_, .string en.op.txt]] x (RetHr (hearS ⟨es, sf, up⟩ en) (hearB ⟨es, sf, up⟩ en) x)) := fun g x h1 h2 => specServerHear_any g 0 _ es sf up en x h1 h2 hfit.out ho (Nat.le_refl _) (by unfold maxLen; omega)
      have HI : Hid (∀ (g : Nat) (x : World), g < x.heap.size → EntsAt x.heap.size x (some ⟨g, 0, none⟩) es → Tab x → Calls Tryd.prog 35 #[.agg #[.slice (some ⟨g, 0, none⟩) es.length es.length, .int .i64 sf, .bool up], .agg #[.int .i64 en.who, .int .i64 en.seq, .int .i64 en.op.kind, .int .i64 en.op.id, .int .i64 en.op.up, .int .i64 en.op.at_, .string en.op.txt]] x (RetHr (hearS ⟨es, sf, up⟩ en) (hearB ⟨es, sf, up⟩ en) x)) := fun g x h1 h2 h3 => implServerHear_any g 0 _ es sf up en x h1 h2 hfit.out h3 ho
      have hrl : (hearS ⟨es, sf, up⟩ en).log.length ≤ 1048576 := hearS_len es sf up en hl
      generalize hearS ⟨es, sf, up⟩ en = rs at *
      generalize hearB ⟨es, sf, up⟩ en = tb at *
      go_upto_region 8 with fail
      have Ld := L2.drew
      have Ad := A2.drew
      have Kd := K2.drew
      have Dd := (Below.refl w2.heap.size w2).drew
      have hla := A2.lt
      have hlk := K2.lt
      obtain ⟨x0, x1, x2⟩ := A2.srv
      have k0 := K2.cell 0 rfl
      have k1 := K2.cell 1 rfl
      have k2 := K2.cell 2 rfl
      have k3 := K2.cell 3 rfl
      have k4 := K2.cell 4 rfl
      have k5 := K2.cell 5 rfl
      have k6 := K2.cell 6 rfl
      go_cut [6, 7] (fun p q wx => ∃ bw va vc, p = .pointer (some ⟨bw, 0, none⟩) ∧ q = .bool tb ∧ Bx wx bw 60 #[.slice va rs.log.length vc, .int .i64 rs.safe, .bool rs.up] ∧ GotE w2.heap.size wx va rs.log ∧ bw < wx.heap.size ∧ Below w2.heap.size w2 wx)
      case first =>
        have HSb : Hid (∀ x : World, Below w2.heap.size w2 x → x.cell? ⟨w.heap.size, 0, none⟩ = some (.slice a es.length cap) ∧ x.cell? ⟨w.heap.size, 1, none⟩ = some (.int .i64 sf) ∧ x.cell? ⟨w.heap.size, 2, none⟩ = some (.bool up) ∧ x.cell? ⟨w.heap.size + 1, 0, none⟩ = some (.int .i64 en.who) ∧ x.cell? ⟨w.heap.size + 1, 1, none⟩ = some (.int .i64 en.seq) ∧ x.cell? ⟨w.heap.size + 1, 2, none⟩ = some (.int .i64 en.op.kind) ∧ x.cell? ⟨w.heap.size + 1, 3, none⟩ = some (.int .i64 en.op.id) ∧ x.cell? ⟨w.heap.size + 1, 4, none⟩ = some (.int .i64 en.op.up) ∧ x.cell? ⟨w.heap.size + 1, 5, none⟩ = some (.int .i64 en.op.at_) ∧ x.cell? ⟨w.heap.size + 1, 6, none⟩ = some (.string en.op.txt)) := fun x hx => ⟨(hx.cell (p := ⟨_, 0, none⟩) hla).trans x0, (hx.cell (p := ⟨_, 1, none⟩) hla).trans x1, (hx.cell (p := ⟨_, 2, none⟩) hla).trans x2, (hx.cell (p := ⟨_, 0, none⟩) hlk).trans k0, (hx.cell (p := ⟨_, 1, none⟩) hlk).trans k1, (hx.cell (p := ⟨_, 2, none⟩) hlk).trans k2, (hx.cell (p := ⟨_, 3, none⟩) hlk).trans k3, (hx.cell (p := ⟨_, 4, none⟩) hlk).trans k4, (hx.cell (p := ⟨_, 5, none⟩) hlk).trans k5, (hx.cell (p := ⟨_, 6, none⟩) hlk).trans k6⟩
        have bc := (Below.refl w2.heap.size w2).drew
        have hsz := bc.size
        have Z0 : Bx (w2.drew.alloc (.cells #[.slice none 0 0, .int .i64 0, .bool false] 60)) w2.heap.size 60 #[.slice none 0 0, .int .i64 0, .bool false] := Bx.new w2.drew _ _
        have Lb := L2
        go_region_held3 (fun x : World => x.cell? ⟨w.heap.size, 0, none⟩ = some (.slice a es.length cap) ∧ x.cell? ⟨w.heap.size, 1, none⟩ = some (.int .i64 sf) ∧ x.cell? ⟨w.heap.size, 2, none⟩ = some (.bool up) ∧ x.cell? ⟨w.heap.size + 1, 0, none⟩ = some (.int .i64 en.who) ∧ x.cell? ⟨w.heap.size + 1, 1, none⟩ = some (.int .i64 en.seq) ∧ x.cell? ⟨w.heap.size + 1, 2, none⟩ = some (.int .i64 en.op.kind) ∧ x.cell? ⟨w.heap.size + 1, 3, none⟩ = some (.int .i64 en.op.id) ∧ x.cell? ⟨w.heap.size + 1, 4, none⟩ = some (.int .i64 en.op.up) ∧ x.cell? ⟨w.heap.size + 1, 5, none⟩ = some (.int .i64 en.op.at_) ∧ x.cell? ⟨w.heap.size + 1, 6, none⟩ = some (.string en.op.txt)) ((refine HSb.out _ ?_; first | (with_reducible exact bc) | (with_reducible exact bc.alloc bc.size _) | (exact below_given3 bc (by omega) _ _ _) | (exact bc.alloc bc.size _) | (exact bc))) (first
          | (go_at_call 33; (refine (HT.out _ (Lb.trans (Below.mono (by first | (with_reducible exact bc) | (exact bc.alloc bc.size _) | (exact bc)) Lb.size))).mono ?_); rintro _ wS ⟨g3, rfl, hg3, oS, bN⟩; (first | (have Zc := Zc.below bN Zc.lt) | (have Zc := (Bx.new _ _ _).below bN (Bx.new _ _ _).lt) | (have Zc : Bx _ w2.heap.size 60 #[.slice none 0 0, .int .i64 0, .bool false] := Z0.below bN Z0.lt) | skip); have bc : Below w2.heap.size w2 _ := (by first | (with_reducible exact bc.trans (bN.mono bc.size)) | (exact (bc.alloc bc.size _).trans (bN.mono (bc.alloc bc.size _).size)) | (exact bc.trans (bN.mono bc.size))); have hsz := bc.size)
          | (go_at_call 34; (refine (toEntry_any en _).mono ?_); rintro _ wE ⟨rfl, bN⟩; (first | (have oS := oS.below bN oS.lt) | (have oS := (oS.below ((Below.refl _ _).alloc (Nat.le_refl _) _) oS.lt).below bN (by first | exact (oS.below ((Below.refl _ _).alloc (Nat.le_refl _) _) oS.lt).lt)) | skip); (first | (have Zc := Zc.below bN Zc.lt) | (have Zc := (Bx.new _ _ _).below bN (Bx.new _ _ _).lt) | (have Zc : Bx _ w2.heap.size 60 #[.slice none 0 0, .int .i64 0, .bool false] := Z0.below bN Z0.lt) | skip); have bc : Below w2.heap.size w2 _ := (by first | (with_reducible exact bc.trans (bN.mono bc.size)) | (exact (bc.alloc bc.size _).trans (bN.mono (bc.alloc bc.size _).size)) | (exact bc.trans (bN.mono bc.size))); have hsz := bc.size)
          | (go_at_call 32; (refine (HS.out g3 _ (by first | (with_reducible exact oS.lt) | (exact (oS.below ((Below.refl _ _).alloc (Nat.le_refl _) _) oS.lt).lt)) (by first | (with_reducible exact oS.at_ oS.lt) | (exact (oS.below ((Below.refl _ _).alloc (Nat.le_refl _) _) oS.lt).at_ (oS.below ((Below.refl _ _).alloc (Nat.le_refl _) _) oS.lt).lt))).mono ?_); rintro _ wd ⟨va2, vc2, rfl, V4, bN⟩; (first | (have hZ := V4.above Zc.lt) | (have hZ := V4.above (Bx.new _ _ _).lt) | skip); have V5 : GotE w2.heap.size wd va2 rs.log := V4.base (by first | (with_reducible exact bc.size) | (exact (bc.alloc bc.size _).size)); (first | (have Zc := Zc.below bN Zc.lt) | (have Zc := (Bx.new _ _ _).below bN (Bx.new _ _ _).lt) | (have Zc : Bx _ w2.heap.size 60 #[.slice none 0 0, .int .i64 0, .bool false] := Z0.below bN Z0.lt) | skip); (first | (obtain ⟨z0, z1, z2⟩ := Zc.srv; have y0 := Zc.frozen 0; have y1 := Zc.frozen 1; have y2 := Zc.frozen 2) | skip); have bc : Below w2.heap.size w2 _ := (by first | (with_reducible exact bc.trans (bN.mono bc.size)) | (exact (bc.alloc bc.size _).trans (bN.mono (bc.alloc bc.size _).size)) | (exact bc.trans (bN.mono bc.size))); have hsz := bc.size))
        all_goals
          first
          | (have QZ := Lib.hid (((Zc.put 0 (.slice va2 rs.log.length vc2)).put 1 (.int .i64 rs.safe)).put 2 (.bool rs.up))
             have QV := Lib.hid (((V5.put' hZ (.slice va2 rs.log.length vc2) (j := 0)).put' hZ (.int .i64 rs.safe) (j := 1)).put' hZ (.bool rs.up) (j := 2))
             have hzl := Zc.lt
             have hzb := hsz
             clear V4 V5 Zc HT HI
             go_wp2
             go_meet
             exact ⟨_, va2, vc2, rfl, rfl, QZ.out, QV.out, QZ.out.lt, below_given3 bc (by omega) _ _ _⟩)
          | (have X8 := Bx.new wd 60 #[.slice va2 rs.log.length vc2, .int .i64 rs.safe, .bool rs.up]
             have V8 := V5.below ((Below.refl wd.heap.size wd).alloc (Nat.le_refl _) (.cells #[.slice va2 rs.log.length vc2, .int .i64 rs.safe, .bool rs.up] 60)) (Nat.le_refl _)
             have bae := bc.alloc bc.size (.cells #[.slice va2 rs.log.length vc2, .int .i64 rs.safe, .bool rs.up] 60)
             clear V4 V5 HT HI
             go_wp2
             go_meet
             exact ⟨_, va2, vc2, rfl, rfl, X8, V8, X8.lt, bae⟩)
      case rest =>
        obtain ⟨bw, va, vc, rfl, rfl, B4, V4g, hbw, b4⟩ := hcut
        have L4 := L2.trans (b4.mono L2.size)
        have A4 := A2.below b4 A2.lt
        have K4 := K2.below b4 K2.lt
        have V4 := V4g.ents
        have s4 : wc.heap.size ≤ wc.heap.size := Nat.le_refl _
        clear L2 A2 K2 b4 V4g Ld Ad Kd Dd hla hlk x0 x1 x2 k0 k1 k2 k3 k4 k5 k6 HS
        generalize hw4 : wc = w4 at *
        clear hw4
        obtain ⟨x0, x1, x2⟩ := A4.srv
        go_wp2_with fail
        refine (HT.out w4 L4).mono ?_
        rintro _ w5 ⟨g2, rfl, hg2, o5, b5⟩
        have L5 := L4.trans (b5.mono L4.size)
        have hwg : w.heap.size ≤ g2 := Nat.le_trans L4.size hg2
        have A5 := A4.below b5 A4.lt
        have K5 := K4.below b5 K4.lt
        have V5 := V4.below b5
        have B5 := B4.below b5 B4.lt
        have s5 := b5.size
        clear L4 A4 K4 V4 B4 b5 x0 x1 x2
        have X6 := Bx.new w5 60 #[.slice (some ⟨g2, 0, none⟩) es.length es.length, .int .i64 sf, .bool up]
        have al5 := (Below.refl w5.heap.size w5).alloc (Nat.le_refl _) (.cells #[.slice (some ⟨g2, 0, none⟩) es.length es.length, .int .i64 sf, .bool up] 60)
        have L6 := L5.trans (al5.mono L5.size)
        have A6 := A5.below al5 A5.lt
        have K6 := K5.below al5 K5.lt
        have V6 := V5.below (al5.mono (by omega))
        have B6 := B5.below al5 B5.lt
        have o6 := o5.below al5 o5.lt
        have s6 := al5.size
        have hg2x : g2 < w5.heap.size := o5.lt
        clear L5 A5 K5 V5 B5 o5 al5
        go_upto_region 10 with fail
        generalize w5.alloc (.cells #[.slice (some ⟨g2, 0, none⟩) es.length es.length, .int .i64 sf, .bool up] 60) = w6 at *
        generalize w5.heap.size = bx at *
        have Ld := L6.drew
        have Kd := K6.drew
        have Xd := X6.drew
        have od := o6.below ((Below.refl w6.heap.size w6).drew) o6.lt
        obtain ⟨x0, x1, x2⟩ := X6.srv
        have k0 := K6.cell 0 rfl
        have k1 := K6.cell 1 rfl
        have k2 := K6.cell 2 rfl
        have k3 := K6.cell 3 rfl
        have k4 := K6.cell 4 rfl
        have k5 := K6.cell 5 rfl
        have k6 := K6.cell 6 rfl
        have Dd := (Below.refl w6.heap.size w6).drew
        have bA := Dd
        have La := Ld
        have o3 := od
        have hla := X6.lt
        have hlk := K6.lt
        go_cut [9, 10] (fun p q wx => ∃ bw va vc, p = .pointer (some ⟨bw, 0, none⟩) ∧ q = .bool tb ∧ Bx wx bw 60 #[.slice va rs.log.length vc, .int .i64 rs.safe, .bool rs.up] ∧ GotE w6.heap.size wx va rs.log ∧ bw < wx.heap.size ∧ Below w6.heap.size w6 wx)
        case first =>
          have HSb : Hid (∀ x : World, Below w6.heap.size w6 x → x.cell? ⟨bx, 0, none⟩ = some (.slice (some ⟨g2, 0, none⟩) es.length es.length) ∧ x.cell? ⟨bx, 1, none⟩ = some (.int .i64 sf) ∧ x.cell? ⟨bx, 2, none⟩ = some (.bool up) ∧ x.cell? ⟨w.heap.size + 1, 0, none⟩ = some (.int .i64 en.who) ∧ x.cell? ⟨w.heap.size + 1, 1, none⟩ = some (.int .i64 en.seq) ∧ x.cell? ⟨w.heap.size + 1, 2, none⟩ = some (.int .i64 en.op.kind) ∧ x.cell? ⟨w.heap.size + 1, 3, none⟩ = some (.int .i64 en.op.id) ∧ x.cell? ⟨w.heap.size + 1, 4, none⟩ = some (.int .i64 en.op.up) ∧ x.cell? ⟨w.heap.size + 1, 5, none⟩ = some (.int .i64 en.op.at_) ∧ x.cell? ⟨w.heap.size + 1, 6, none⟩ = some (.string en.op.txt)) := fun x hx => ⟨(hx.cell (p := ⟨_, 0, none⟩) hla).trans x0, (hx.cell (p := ⟨_, 1, none⟩) hla).trans x1, (hx.cell (p := ⟨_, 2, none⟩) hla).trans x2, (hx.cell (p := ⟨_, 0, none⟩) hlk).trans k0, (hx.cell (p := ⟨_, 1, none⟩) hlk).trans k1, (hx.cell (p := ⟨_, 2, none⟩) hlk).trans k2, (hx.cell (p := ⟨_, 3, none⟩) hlk).trans k3, (hx.cell (p := ⟨_, 4, none⟩) hlk).trans k4, (hx.cell (p := ⟨_, 5, none⟩) hlk).trans k5, (hx.cell (p := ⟨_, 6, none⟩) hlk).trans k6⟩
          have bc := (Below.refl w6.heap.size w6).drew
          have hsz := bc.size
          have Z0 : Bx (w6.drew.alloc (.cells #[.slice none 0 0, .int .i64 0, .bool false] 60)) w6.heap.size 60 #[.slice none 0 0, .int .i64 0, .bool false] := Bx.new w6.drew _ _
          have oS := od
          go_region_held3 (fun x : World => x.cell? ⟨bx, 0, none⟩ = some (.slice (some ⟨g2, 0, none⟩) es.length es.length) ∧ x.cell? ⟨bx, 1, none⟩ = some (.int .i64 sf) ∧ x.cell? ⟨bx, 2, none⟩ = some (.bool up) ∧ x.cell? ⟨w.heap.size + 1, 0, none⟩ = some (.int .i64 en.who) ∧ x.cell? ⟨w.heap.size + 1, 1, none⟩ = some (.int .i64 en.seq) ∧ x.cell? ⟨w.heap.size + 1, 2, none⟩ = some (.int .i64 en.op.kind) ∧ x.cell? ⟨w.heap.size + 1, 3, none⟩ = some (.int .i64 en.op.id) ∧ x.cell? ⟨w.heap.size + 1, 4, none⟩ = some (.int .i64 en.op.up) ∧ x.cell? ⟨w.heap.size + 1, 5, none⟩ = some (.int .i64 en.op.at_) ∧ x.cell? ⟨w.heap.size + 1, 6, none⟩ = some (.string en.op.txt)) ((refine HSb.out _ ?_; first | (with_reducible exact bc) | (with_reducible exact bc.alloc bc.size _) | (exact below_given3 bc (by omega) _ _ _) | (exact bc.alloc bc.size _) | (exact bc))) (first
            | (go_at_call 34; (refine (toEntry_any en _).mono ?_); rintro _ wE ⟨rfl, bN⟩; (first | (have oS := oS.below bN oS.lt) | (have oS := (oS.below ((Below.refl _ _).alloc (Nat.le_refl _) _) oS.lt).below bN (by first | exact (oS.below ((Below.refl _ _).alloc (Nat.le_refl _) _) oS.lt).lt)) | skip); (first | (have Zc := Zc.below bN Zc.lt) | (have Zc := (Bx.new _ _ _).below bN (Bx.new _ _ _).lt) | (have Zc : Bx _ w6.heap.size 60 #[.slice none 0 0, .int .i64 0, .bool false] := Z0.below bN Z0.lt) | skip); have bc : Below w6.heap.size w6 _ := (by first | (with_reducible exact bc.trans (bN.mono bc.size)) | (exact (bc.alloc bc.size _).trans (bN.mono (bc.alloc bc.size _).size)) | (exact bc.trans (bN.mono bc.size))); have hsz := bc.size)
            | (go_at_call 35; (refine (HI.out g2 _ (by first | (with_reducible exact oS.lt) | (exact (oS.below ((Below.refl _ _).alloc (Nat.le_refl _) _) oS.lt).lt)) (by first | (with_reducible exact oS.at_ oS.lt) | (exact (oS.below ((Below.refl _ _).alloc (Nat.le_refl _) _) oS.lt).at_ (oS.below ((Below.refl _ _).alloc (Nat.le_refl _) _) oS.lt).lt)) (by first | (with_reducible exact ht.below (L6.trans (bc.mono L6.size)) hz) | (exact ht.below (L6.trans ((bc.alloc bc.size _).mono L6.size)) hz) | (exact ht.below (L6.trans (bc.mono L6.size)) hz))).mono ?_); rintro _ wd ⟨va2, vc2, rfl, V4, bN⟩; (first | (have hZ := V4.above Zc.lt) | (have hZ := V4.above (Bx.new _ _ _).lt) | skip); have V5 : GotE w6.heap.size wd va2 rs.log := V4.base (by first | (with_reducible exact bc.size) | (exact (bc.alloc bc.size _).size)); (first | (have Zc := Zc.below bN Zc.lt) | (have Zc := (Bx.new _ _ _).below bN (Bx.new _ _ _).lt) | (have Zc : Bx _ w6.heap.size 60 #[.slice none 0 0, .int .i64 0, .bool false] := Z0.below bN Z0.lt) | skip); (first | (obtain ⟨z0, z1, z2⟩ := Zc.srv; have y0 := Zc.frozen 0; have y1 := Zc.frozen 1; have y2 := Zc.frozen 2) | skip); have bc : Below w6.heap.size w6 _ := (by first | (with_reducible exact bc.trans (bN.mono bc.size)) | (exact (bc.alloc bc.size _).trans (bN.mono (bc.alloc bc.size _).size)) | (exact bc.trans (bN.mono bc.size))); have hsz := bc.size))
          all_goals
            first
            | (have QZ := Lib.hid (((Zc.put 0 (.slice va2 rs.log.length vc2)).put 1 (.int .i64 rs.safe)).put 2 (.bool rs.up))
               have QV := Lib.hid (((V5.put' hZ (.slice va2 rs.log.length vc2) (j := 0)).put' hZ (.int .i64 rs.safe) (j := 1)).put' hZ (.bool rs.up) (j := 2))
               have hzl := Zc.lt
               have hzb := hsz
               clear V4 V5 Zc HT HI
               go_wp2
               go_meet
               exact ⟨_, va2, vc2, rfl, rfl, QZ.out, QV.out, QZ.out.lt, below_given3 bc (by omega) _ _ _⟩)
            | (have X8 := Bx.new wd 60 #[.slice va2 rs.log.length vc2, .int .i64 rs.safe, .bool rs.up]
               have V8 := V5.below ((Below.refl wd.heap.size wd).alloc (Nat.le_refl _) (.cells #[.slice va2 rs.log.length vc2, .int .i64 rs.safe, .bool rs.up] 60)) (Nat.le_refl _)
               have bae := bc.alloc bc.size (.cells #[.slice va2 rs.log.length vc2, .int .i64 rs.safe, .bool rs.up] 60)
               clear V4 V5 HT HI
               go_wp2
               go_meet
               exact ⟨_, va2, vc2, rfl, rfl, X8, V8, X8.lt, bae⟩)
        case rest =>
          obtain ⟨bg, ga, gc, rfl, rfl, Q8, G8, hbg, b8⟩ := hcut
          have L8 := L6.trans (b8.mono L6.size)
          have A8 := A6.below b8 A6.lt
          have K8 := K6.below b8 K6.lt
          have B8 := B6.below b8 B6.lt
          have V8 := V6.below (b8.mono (by omega))
          have X8 := X6.below b8 X6.lt
          have o8 := o6.below b8 o6.lt
          have hg2q : g2 < w6.heap.size := o6.lt
          have hbxq : bx < w6.heap.size := X6.lt
          have sq : w6.heap.size ≤ wc.heap.size := b8.size
          clear L6 A6 K6 B6 V6 X6 o6 b8 Ld Kd Xd od Dd bA La o3 hla hlk x0 x1 x2 k0 k1 k2 k3 k4 k5 k6
          generalize hw8 : wc = w8 at *
          clear hw8
          generalize hq6 : w6.heap.size = q6 at *
          clear hq6
          obtain ⟨x0, x1, x2⟩ := Q8.srv
          obtain ⟨y0, y1, y2⟩ := B8.srv
          go_wp2_with fail
          refine (eqServer_same _ _ _ _ _ rs.log rs.safe rs.up _ (Nat.le_refl _) G8.ents (V8.mono (by omega)) hrl).mono ?_
          rintro _ w9 ⟨rfl, b9⟩
          clear x0 x1 x2 y0 y1 y2
          have L_9 := L8.trans (b9.mono L8.size)
          have A_9 := A8.below b9 A8.lt
          have K_9 := K8.below b9 K8.lt
          have V_9 := V8.below (b9.mono (by omega))
          have X_9 := X8.below b9 X8.lt
          have o_9 := o8.below b9 o8.lt
          have G_9 := G8.below b9 (Nat.le_refl _)
          have B_9 := B8.below b9 B8.lt
          have Q_9 := Q8.below b9 Q8.lt
          have sq9 := Nat.le_trans sq b9.size
          clear L8 A8 K8 V8 X8 o8 G8 B8 Q8 sq
          have sq := sq9
          clear sq9 b9
          go_upto_region 13 with fail
          have Ld := L_9.drew
          have Xd := X_9.drew
          obtain ⟨x0, x1, x2⟩ := A_9.srv
          obtain ⟨y0, y1, y2⟩ := X_9.srv
          have od := o_9.below ((Below.refl w9.heap.size w9).drew) o_9.lt
          go_cut [56] (fun p wx => p = .bool false ∧ Below w9.heap.size w9 wx)
          case first =>
            go_region_with (first
              | (go_at_call 33; refine (HT.out _ Ld).mono ?_; rintro _ wa ⟨g3, rfl, hg3, o3, ba⟩; have Xa := Xd.below ba Xd.lt; have oa := od.below ba od.lt; obtain ⟨p0, p1, p2⟩ := Xa.srv)
              | (go_at_call 36; refine (eqServer_same _ _ _ _ _ es sf up _ (Nat.le_refl _) (oa.at_ oa.lt) (o3.at_ o3.lt) hl).mono ?_; rintro _ wb ⟨rfl, bb⟩; have bab := ((Below.refl w9.heap.size w9).drew).trans (ba.trans (bb.mono ba.size))))
            all_goals
              go_wp2
              go_meet
              exact ⟨rfl, bab⟩
          case rest =>
            obtain ⟨rfl, bc⟩ := hcut
            clear Ld Xd od x0 x1 x2 y0 y1 y2
            have L_10 := L_9.trans (bc.mono L_9.size)
            have A_10 := A_9.below bc A_9.lt
            have K_10 := K_9.below bc K_9.lt
            have V_10 := V_9.below (bc.mono (by omega))
            have X_10 := X_9.below bc X_9.lt
            have o_10 := o_9.below bc o_9.lt
            have G_10 := G_9.below bc (Nat.le_refl _)
            have B_10 := B_9.below bc B_9.lt
            have Q_10 := Q_9.below bc Q_9.lt
            have sq10 := Nat.le_trans sq bc.size
            clear L_9 A_9 K_9 V_9 X_9 o_9 G_9 B_9 Q_9 sq
            have sq := sq10
            clear sq10 bc
            obtain ⟨x0, x1, x2⟩ := X_10.srv
            have hox : GotE g2 wc (some ⟨g2, 0, none⟩) es := .inr ⟨g2, _, rfl, Nat.le_refl _, o_10⟩
            go_wp2_with fail
            refine (markServer_any g2 _ _ es sf up _ (by omega) hox hl).mono ?_
            rintro _ wd ⟨rfl, md⟩
            have L_11 := L_10.trans (md.low.mono (by omega))
            have A_11 := md.box _ _ _ (by decide) A_10
            have K_11 := md.box _ _ _ (by decide) K_10
            have V_11 := V_10.below (md.low.mono (by omega))
            have X_11 := md.box _ _ _ (by decide) X_10
            have G_11 := md.ents q6 _ _ (.inr fun g' e => by cases e; exact hg2q) G_10
            have B_11 := md.box _ _ _ (by decide) B_10
            have Q_11 := md.box _ _ _ (by decide) Q_10
            have sqd := Nat.le_trans sq md.size
            clear L_10 A_10 K_10 V_10 X_10 o_10 G_10 B_10 Q_10 sq hox md x0 x1 x2
            have sq := sqd
            clear sqd
            have hk1 : 0 ≤ (es.length : Int) * 7 + 1 := by omega
            obtain ⟨x0, x1, x2⟩ := Q_11.srv
            obtain ⟨y0, y1, y2⟩ := B_11.srv
            go_wp2_with fail
            refine (eqServer_same _ _ _ _ _ rs.log rs.safe rs.up _ (Nat.le_refl _) G_11.ents (V_11.mono (by omega)) hrl).mono ?_
            rintro _ we ⟨rfl, be⟩
            clear x0 x1 x2 y0 y1 y2
            have L_12 := L_11.trans (be.mono L_11.size)
            have A_12 := A_11.below be A_11.lt
            have K_12 := K_11.below be K_11.lt
            have V_12 := V_11.below (be.mono (by omega))
            have X_12 := X_11.below be X_11.lt
            have G_12 := G_11.below be (Nat.le_refl _)
            have B_12 := B_11.below be B_11.lt
            have Q_12 := Q_11.below be Q_11.lt
            have sq12 := Nat.le_trans sq be.size
            clear L_11 A_11 K_11 V_11 X_11 G_11 B_11 Q_11 sq
            have sq := sq12
            clear sq12 be
            obtain ⟨x0, x1, x2⟩ := Q_12.srv
            go_wp2_with fail
            refine (markServer_any q6 _ _ rs.log rs.safe rs.up _ (by omega) G_12 hrl).mono ?_
            rintro _ wf ⟨rfl, mf⟩
            have L_13 := L_12.trans (mf.low.mono (by omega))
            have A_13 := mf.box _ _ _ (by decide) A_12
            have K_13 := mf.box _ _ _ (by decide) K_12
            have V_13 := V_12.below (mf.low.mono (by omega))
            have B_13 := mf.box _ _ _ (by decide) B_12
            have Q_13 := mf.box _ _ _ (by decide) Q_12
            have M_13 := mf.got
            have sqf := Nat.le_trans sq mf.size
            clear L_12 A_12 K_12 V_12 X_12 G_12 B_12 Q_12 sq mf x0 x1 x2
            have sq := sqf
            clear sqf
            have hq1 : ¬ ((rs.log.length : Int) * 7 + 1 < 0) := by omega
            obtain ⟨x0, x1, x2⟩ := Q_13.srv
            go_wp2_with fail
            refine (heldServer_any _ _ rs.log.length rs.safe rs.up _ M_13.ents hrl).mono ?_
            rintro _ wg ⟨rfl, bg2⟩
            clear x0 x1 x2
            have L_14 := L_13.trans (bg2.mono L_13.size)
            have A_14 := A_13.below bg2 A_13.lt
            have K_14 := K_13.below bg2 K_13.lt
            have V_14 := V_13.below (bg2.mono (by omega))
            have B_14 := B_13.below bg2 B_13.lt
            have Q_14 := Q_13.below bg2 Q_13.lt
            have M_14 := M_13.below bg2 (Nat.le_refl _)
            have sq14 := Nat.le_trans sq bg2.size
            clear L_13 A_13 K_13 V_13 B_13 Q_13 M_13 sq
            have sq := sq14
            clear sq14 bg2
            go_upto_region 27 with fail
            have Lz := L_14
            have Az := A_14
            have Kz := K_14
            have Ld := Lz.drew
            have Ad := Az.drew
            have Kd := Kz.drew
            obtain ⟨x0, x1, x2⟩ := Az.srv
            have k0 := Kz.cell 0 rfl
            have k1 := Kz.cell 1 rfl
            have k2 := Kz.cell 2 rfl
            have k3 := Kz.cell 3 rfl
            have k4 := Kz.cell 4 rfl
            have k5 := Kz.cell 5 rfl
            have k6 := Kz.cell 6 rfl
            have Dd := (Below.refl wg.heap.size wg).drew
            have hla := Az.lt
            have hlk := Kz.lt
            go_cut [14, 15] (fun p q wx => ∃ bw va vc, p = .pointer (some ⟨bw, 0, none⟩) ∧ q = .bool tb ∧ Bx wx bw 60 #[.slice va rs.log.length vc, .int .i64 rs.safe, .bool rs.up] ∧ GotE wg.heap.size wx va rs.log ∧ bw < wx.heap.size ∧ Below wg.heap.size wg wx)
            case first =>
              have HSb : Hid (∀ x : World, Below wg.heap.size wg x → x.cell? ⟨w.heap.size, 0, none⟩ = some (.slice a es.length cap) ∧ x.cell? ⟨w.heap.size, 1, none⟩ = some (.int .i64 sf) ∧ x.cell? ⟨w.heap.size, 2, none⟩ = some (.bool up) ∧ x.cell? ⟨w.heap.size + 1, 0, none⟩ = some (.int .i64 en.who) ∧ x.cell? ⟨w.heap.size + 1, 1, none⟩ = some (.int .i64 en.seq) ∧ x.cell? ⟨w.heap.size + 1, 2, none⟩ = some (.int .i64 en.op.kind) ∧ x.cell? ⟨w.heap.size + 1, 3, none⟩ = some (.int .i64 en.op.id) ∧ x.cell? ⟨w.heap.size + 1, 4, none⟩ = some (.int .i64 en.op.up) ∧ x.cell? ⟨w.heap.size + 1, 5, none⟩ = some (.int .i64 en.op.at_) ∧ x.cell? ⟨w.heap.size + 1, 6, none⟩ = some (.string en.op.txt)) := fun x hx => ⟨(hx.cell (p := ⟨_, 0, none⟩) hla).trans x0, (hx.cell (p := ⟨_, 1, none⟩) hla).trans x1, (hx.cell (p := ⟨_, 2, none⟩) hla).trans x2, (hx.cell (p := ⟨_, 0, none⟩) hlk).trans k0, (hx.cell (p := ⟨_, 1, none⟩) hlk).trans k1, (hx.cell (p := ⟨_, 2, none⟩) hlk).trans k2, (hx.cell (p := ⟨_, 3, none⟩) hlk).trans k3, (hx.cell (p := ⟨_, 4, none⟩) hlk).trans k4, (hx.cell (p := ⟨_, 5, none⟩) hlk).trans k5, (hx.cell (p := ⟨_, 6, none⟩) hlk).trans k6⟩
              have bc := (Below.refl wg.heap.size wg).drew
              have hsz := bc.size
              have Z0 : Bx (wg.drew.alloc (.cells #[.slice none 0 0, .int .i64 0, .bool false] 60)) wg.heap.size 60 #[.slice none 0 0, .int .i64 0, .bool false] := Bx.new wg.drew _ _
              have Lb := Lz
              go_region_held3 (fun x : World => x.cell? ⟨w.heap.size, 0, none⟩ = some (.slice a es.length cap) ∧ x.cell? ⟨w.heap.size, 1, none⟩ = some (.int .i64 sf) ∧ x.cell? ⟨w.heap.size, 2, none⟩ = some (.bool up) ∧ x.cell? ⟨w.heap.size + 1, 0, none⟩ = some (.int .i64 en.who) ∧ x.cell? ⟨w.heap.size + 1, 1, none⟩ = some (.int .i64 en.seq) ∧ x.cell? ⟨w.heap.size + 1, 2, none⟩ = some (.int .i64 en.op.kind) ∧ x.cell? ⟨w.heap.size + 1, 3, none⟩ = some (.int .i64 en.op.id) ∧ x.cell? ⟨w.heap.size + 1, 4, none⟩ = some (.int .i64 en.op.up) ∧ x.cell? ⟨w.heap.size + 1, 5, none⟩ = some (.int .i64 en.op.at_) ∧ x.cell? ⟨w.heap.size + 1, 6, none⟩ = some (.string en.op.txt)) ((refine HSb.out _ ?_; first | (with_reducible exact bc) | (with_reducible exact bc.alloc bc.size _) | (exact below_given3 bc (by omega) _ _ _) | (exact bc.alloc bc.size _) | (exact bc))) (first
                | (go_at_call 33; (refine (HT.out _ (Lb.trans (Below.mono (by first | (with_reducible exact bc) | (exact bc.alloc bc.size _) | (exact bc)) Lb.size))).mono ?_); rintro _ wS ⟨g3, rfl, hg3, oS, bN⟩; (first | (have Zc := Zc.below bN Zc.lt) | (have Zc := (Bx.new _ _ _).below bN (Bx.new _ _ _).lt) | (have Zc : Bx _ wg.heap.size 60 #[.slice none 0 0, .int .i64 0, .bool false] := Z0.below bN Z0.lt) | skip); have bc : Below wg.heap.size wg _ := (by first | (with_reducible exact bc.trans (bN.mono bc.size)) | (exact (bc.alloc bc.size _).trans (bN.mono (bc.alloc bc.size _).size)) | (exact bc.trans (bN.mono bc.size))); have hsz := bc.size)
                | (go_at_call 34; (refine (toEntry_any en _).mono ?_); rintro _ wE ⟨rfl, bN⟩; (first | (have oS := oS.below bN oS.lt) | (have oS := (oS.below ((Below.refl _ _).alloc (Nat.le_refl _) _) oS.lt).below bN (by first | exact (oS.below ((Below.refl _ _).alloc (Nat.le_refl _) _) oS.lt).lt)) | skip); (first | (have Zc := Zc.below bN Zc.lt) | (have Zc := (Bx.new _ _ _).below bN (Bx.new _ _ _).lt) | (have Zc : Bx _ wg.heap.size 60 #[.slice none 0 0, .int .i64 0, .bool false] := Z0.below bN Z0.lt) | skip); have bc : Below wg.heap.size wg _ := (by first | (with_reducible exact bc.trans (bN.mono bc.size)) | (exact (bc.alloc bc.size _).trans (bN.mono (bc.alloc bc.size _).size)) | (exact bc.trans (bN.mono bc.size))); have hsz := bc.size)
                | (go_at_call 35; (refine (HI.out g3 _ (by first | (with_reducible exact oS.lt) | (exact (oS.below ((Below.refl _ _).alloc (Nat.le_refl _) _) oS.lt).lt)) (by first | (with_reducible exact oS.at_ oS.lt) | (exact (oS.below ((Below.refl _ _).alloc (Nat.le_refl _) _) oS.lt).at_ (oS.below ((Below.refl _ _).alloc (Nat.le_refl _) _) oS.lt).lt)) (by first | (with_reducible exact ht.below (Lz.trans (bc.mono Lz.size)) hz) | (exact ht.below (Lz.trans ((bc.alloc bc.size _).mono Lz.size)) hz) | (exact ht.below (Lz.trans (bc.mono Lz.size)) hz))).mono ?_); rintro _ wd ⟨va2, vc2, rfl, V4, bN⟩; (first | (have hZ := V4.above Zc.lt) | (have hZ := V4.above (Bx.new _ _ _).lt) | skip); have V5 : GotE wg.heap.size wd va2 rs.log := V4.base (by first | (with_reducible exact bc.size) | (exact (bc.alloc bc.size _).size)); (first | (have Zc := Zc.below bN Zc.lt) | (have Zc := (Bx.new _ _ _).below bN (Bx.new _ _ _).lt) | (have Zc : Bx _ wg.heap.size 60 #[.slice none 0 0, .int .i64 0, .bool false] := Z0.below bN Z0.lt) | skip); (first | (obtain ⟨z0, z1, z2⟩ := Zc.srv; have y0 := Zc.frozen 0; have y1 := Zc.frozen 1; have y2 := Zc.frozen 2) | skip); have bc : Below wg.heap.size wg _ := (by first | (with_reducible exact bc.trans (bN.mono bc.size)) | (exact (bc.alloc bc.size _).trans (bN.mono (bc.alloc bc.size _).size)) | (exact bc.trans (bN.mono bc.size))); have hsz := bc.size))
              all_goals
                first
                | (have QZ := Lib.hid (((Zc.put 0 (.slice va2 rs.log.length vc2)).put 1 (.int .i64 rs.safe)).put 2 (.bool rs.up))
                   have QV := Lib.hid (((V5.put' hZ (.slice va2 rs.log.length vc2) (j := 0)).put' hZ (.int .i64 rs.safe) (j := 1)).put' hZ (.bool rs.up) (j := 2))
                   have hzl := Zc.lt
                   have hzb := hsz
                   clear V4 V5 Zc HT HI
                   go_wp2
                   go_meet
                   exact ⟨_, va2, vc2, rfl, rfl, QZ.out, QV.out, QZ.out.lt, below_given3 bc (by omega) _ _ _⟩)
                | (have X8 := Bx.new wd 60 #[.slice va2 rs.log.length vc2, .int .i64 rs.safe, .bool rs.up]
                   have V8 := V5.below ((Below.refl wd.heap.size wd).alloc (Nat.le_refl _) (.cells #[.slice va2 rs.log.length vc2, .int .i64 rs.safe, .bool rs.up] 60)) (Nat.le_refl _)
                   have bae := bc.alloc bc.size (.cells #[.slice va2 rs.log.length vc2, .int .i64 rs.safe, .bool rs.up] 60)
                   clear V4 V5 HT HI
                   go_wp2
                   go_meet
                   exact ⟨_, va2, vc2, rfl, rfl, X8, V8, X8.lt, bae⟩)
            case rest =>
              obtain ⟨bh9, ha, hc, rfl, rfl, P9, H9, _, b9⟩ := hcut
              clear Ld Ad Kd Dd hla hlk Lz Az Kz x0 x1 x2 k0 k1 k2 k3 k4 k5 k6
              have L_15 := L_14.trans (b9.mono L_14.size)
              have A_15 := A_14.below b9 A_14.lt
              have K_15 := K_14.below b9 K_14.lt
              have V_15 := V_14.below (b9.mono (by omega))
              have B_15 := B_14.below b9 B_14.lt
              have Q_15 := Q_14.below b9 Q_14.lt
              have M_15 := M_14.below b9 (Nat.le_refl _)
              have sq15 := Nat.le_trans sq b9.size
              clear L_14 A_14 K_14 V_14 B_14 Q_14 M_14 sq
              have sq := sq15
              clear sq15 b9
              obtain ⟨x0, x1, x2⟩ := P9.srv
              obtain ⟨y0, y1, y2⟩ := B_15.srv
              go_wp2_with fail
              refine (eqServer_same _ _ _ _ _ rs.log rs.safe rs.up _ (Nat.le_refl _) H9.ents (V_15.mono (by omega)) hrl).mono ?_
              rintro _ wk ⟨rfl, bk⟩
              clear H9 P9 x0 x1 x2 y0 y1 y2
              have L_16 := L_15.trans (bk.mono L_15.size)
              have A_16 := A_15.below bk A_15.lt
              have K_16 := K_15.below bk K_15.lt
              have V_16 := V_15.below (bk.mono (by omega))
              have B_16 := B_15.below bk B_15.lt
              have Q_16 := Q_15.below bk Q_15.lt
              have M_16 := M_15.below bk (Nat.le_refl _)
              have sq16 := Nat.le_trans sq bk.size
              clear L_15 A_15 K_15 V_15 B_15 Q_15 M_15 sq
              have sq := sq16
              clear sq16 bk
              obtain ⟨x0, x1, x2⟩ := Q_16.srv
              go_wp2_with fail
              refine (heldServer_any _ _ rs.log.length rs.safe rs.up _ M_16.ents hrl).mono ?_
              rintro _ wl ⟨rfl, bl⟩
              clear x0 x1 x2
              have Lf := L_16.trans (bl.mono L_16.size)
              clear bl A_16 K_16 V_16 B_16 Q_16 M_16
              go_wp2
              go_ret
              exact ⟨rfl, Lf⟩
end Go.Proofs.YtcpmahchagjhkaaDoor
