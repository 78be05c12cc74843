/-
  The walk of the law FnExactServerSync out of the contracts. Conditions: the arguments read as a server and what else the law takes; the table 'creators' holds what its initialiser lays.
-/
import Derived.Test.YtkecboeaiipjhaaDoorGV
import Derived.Test.YtkecboeaiipjhaaDoorGW
namespace Go.Proofs.YtkecboeaiipjhaaDoor
open Go.ChangeShapes Go.WideShapes Go.ChangeAt Go.RowKit Go.Joins Go.Deep

def RetSy (s : SrvD) (told : Bool) (w : World) (r : Ending) (w' : World) : Prop := ∃ a c, r = .returned (.tuple #[.agg #[.slice a s.log.length c, .int .i64 s.safe, .bool s.up], .bool told]) ∧ GotE w.heap.size w' a s.log ∧ Below w.heap.size w w'
theorem retSy_of {s : SrvD} {ok told : Bool} {w : World} {r : Ending} {w' : World} (h : RetSvB s ok told w r w') : RetSy s told w r w' := by
  obtain ⟨a, c, h1, h2, _, h3⟩ := h
  exact ⟨a, c, h1, h2, h3⟩
theorem syncS_len (s : SrvD) : (syncS s).log.length ≤ s.log.length := by
  unfold syncS zsrv; split
  · split <;> exact Nat.le_refl _
  · simp
set_option maxRecDepth 100000 in
set_option maxHeartbeats 8000000 in
theorem fnExactServerSync_walk (w : World) (ht : Tab w) (a : Option Addr) (cap : Nat) (es : List EntD) (sf : Int) (up : Bool) (hm : es.length ≤ maxLen) (h : EntsAt w.heap.size w a es) (hf : ∀ i, i < es.length → EFit (eat es i)) :
    Calls Tryd.prog 5 #[.agg #[.slice a es.length cap, .int .i64 sf, .bool up]] w fun e w' => e = .returned (.bool true) ∧ Below w.heap.size w w' := by
  have hz := ht.pos
  have al := (Below.refl w.heap.size w).alloc (Nat.le_refl _) (.cells #[.slice a es.length cap, .int .i64 sf, .bool up] 24)
  have A0 := Bx.new w 24 #[.slice a es.length cap, .int .i64 sf, .bool up]
  go_enter Tryd.func5, Tryd.ntmps5
  go_upto_region 1 with fail
  generalize w.alloc (.cells #[.slice a es.length cap, .int .i64 sf, .bool up] 24) = w0 at *
  obtain ⟨x0, x1, x2⟩ := A0.srv
  go_wp2_with fail
  refine (szServer_any w.heap.size a cap es sf up w0 al.size (h.below al) hf hm).mono ?_
  rintro _ w1 ⟨z, rfl, hz', b1⟩
  have L1 := al.trans (b1.mono al.size)
  have A1 := A0.below b1 A0.lt
  clear al A0 b1 x0 x1 x2
  rcases hz' with hneg | ⟨hpos, hz1, hl⟩
  · go_wp2
    go_ret
    exact ⟨rfl, L1⟩
  · have hfit := Lib.hid (show EntsFit es from ⟨hl, hf⟩)
    have HT : Hid (∀ x, Below w.heap.size w x → Calls Tryd.prog 10 #[.agg #[.slice a es.length cap, .int .i64 sf, .bool up]] x (RetToSrv es sf up x)) := fun x hx => toServer_any w.heap.size a cap es sf up x hx.size (h.below hx) hl
    have HS : Hid (∀ (g : Nat) (x : World), g < x.heap.size → EntsAt x.heap.size x (some ⟨g, 0, none⟩) es → Calls Tryd.prog 19 #[.agg #[.slice (some ⟨g, 0, none⟩) es.length es.length, .int .i64 sf, .bool up]] x (RetSy (syncS ⟨es, sf, up⟩) (syncB ⟨es, sf, up⟩) x)) := fun g x h1 h2 => (specServerSync_any g 0 _ es sf up x h1 h2 hfit.out (Nat.le_refl _) (by unfold maxLen; omega)).mono fun r w' q => retSy_of q
    have HI : Hid (∀ (g : Nat) (x : World), g < x.heap.size → EntsAt x.heap.size x (some ⟨g, 0, none⟩) es → Tab x → Calls Tryd.prog 20 #[.agg #[.slice (some ⟨g, 0, none⟩) es.length es.length, .int .i64 sf, .bool up]] x (RetSy (syncS ⟨es, sf, up⟩) (syncB ⟨es, sf, up⟩) x)) := fun g x h1 h2 h3 => (implServerSync_any g 0 _ es sf up x h1 h2 hfit.out h3).mono fun r w' q => retSy_of q
    have hrl : ((syncS ⟨es, sf, up⟩).log).length ≤ 1048576 := by have := syncS_len ⟨es, sf, up⟩; simp only [] at this; omega
    generalize syncS ⟨es, sf, up⟩ = rs at *
    generalize syncB ⟨es, sf, up⟩ = tb at *
    obtain ⟨x0, x1, x2⟩ := A1.srv
    go_wp2_with fail
    refine (HT.out w1 L1).mono ?_
    rintro _ w2 ⟨g1, rfl, hg1, o2, b2⟩
    have L2 := L1.trans (b2.mono L1.size)
    have A2 := A1.below b2 A1.lt
    clear L1 A1 b2 x0 x1 x2
    go_wp2_with fail
    refine (HS.out g1 w2 o2.lt (o2.at_ o2.lt)).mono ?_
    rintro _ w3 ⟨va, vc, rfl, V3, b3⟩
    have L3 := L2.trans (b3.mono L2.size)
    have A3 := A2.below b3 A2.lt
    clear L2 A2 b3 o2 HS hg1
    have B4 := Bx.new w3 29 #[.slice va rs.log.length vc, .int .i64 rs.safe, .bool rs.up]
    have al3 := (Below.refl w3.heap.size w3).alloc (Nat.le_refl _) (.cells #[.slice va rs.log.length vc, .int .i64 rs.safe, .bool rs.up] 29)
    have L4 := L3.trans (al3.mono L3.size)
    have A4 := A3.below al3 A3.lt
    have V4 := V3.ents.below al3
    have s4 := al3.size
    clear L3 A3 V3 al3
    go_upto_region 6 with fail
    generalize w3.alloc (.cells #[.slice va rs.log.length vc, .int .i64 rs.safe, .bool rs.up] 29) = w4 at *
    generalize w3.heap.size = bw at *
    obtain ⟨x0, x1, x2⟩ := A4.srv
    go_wp2_with fail
    refine (HT.out w4 L4).mono ?_
    rintro _ w5 ⟨g2, rfl, hg2, o5, b5⟩
    have L5 := L4.trans (b5.mono L4.size)
    have hwg : w.heap.size ≤ g2 := Nat.le_trans L4.size hg2
    have A5 := A4.below b5 A4.lt
    have V5 := V4.below (b5.mono s4)
    have s5 := b5.size
    have B5 := B4.below b5 B4.lt
    clear L4 A4 V4 b5 x0 x1 x2 B4
    have X6 := Bx.new w5 29 #[.slice (some ⟨g2, 0, none⟩) es.length es.length, .int .i64 sf, .bool up]
    have al5 := (Below.refl w5.heap.size w5).alloc (Nat.le_refl _) (.cells #[.slice (some ⟨g2, 0, none⟩) es.length es.length, .int .i64 sf, .bool up] 29)
    have L6 := L5.trans (al5.mono L5.size)
    have A6 := A5.below al5 A5.lt
    have V6 := V5.below (al5.mono (by omega))
    have o6 := o5.below al5 o5.lt
    have s6 := al5.size
    have hg2x : g2 < w5.heap.size := o5.lt
    have B6 := B5.below al5 B5.lt
    clear L5 A5 V5 o5 al5 B5
    go_upto_region 7 with fail
    generalize w5.alloc (.cells #[.slice (some ⟨g2, 0, none⟩) es.length es.length, .int .i64 sf, .bool up] 29) = w6 at *
    generalize w5.heap.size = bx at *
    obtain ⟨x0, x1, x2⟩ := X6.srv
    go_wp2_with fail
    refine (HI.out g2 w6 o6.lt (o6.at_ o6.lt) (ht.below L6 hz)).mono ?_
    rintro _ w7 ⟨ga, gc, rfl, G7, b7⟩
    have L7 := L6.trans (b7.mono L6.size)
    have A7 := A6.below b7 A6.lt
    have V7 := V6.below (b7.mono (by omega))
    have X7 := X6.below b7 X6.lt
    have o7 := o6.below b7 o6.lt
    have s7 := b7.size
    have hg2q : g2 < w6.heap.size := o6.lt
    have hbxq : bx < w6.heap.size := X6.lt
    have B7 := B6.below b7 B6.lt
    clear L6 A6 V6 X6 o6 b7 x0 x1 x2 B6
    have Q8 := Bx.new w7 29 #[.slice ga rs.log.length gc, .int .i64 rs.safe, .bool rs.up]
    have al7 := (Below.refl w7.heap.size w7).alloc (Nat.le_refl _) (.cells #[.slice ga rs.log.length gc, .int .i64 rs.safe, .bool rs.up] 29)
    have L8 := L7.trans (al7.mono L7.size)
    have A8 := A7.below al7 A7.lt
    have B8 := B7.below al7 B7.lt
    have V8 := V7.below (al7.mono (by omega))
    have X8 := X7.below al7 X7.lt
    have o8 := o7.below al7 o7.lt
    have G8 := G7.below al7 (Nat.le_refl _)
    have sq : w6.heap.size ≤ (w7.alloc (.cells #[.slice ga rs.log.length gc, .int .i64 rs.safe, .bool rs.up] 29)).heap.size := Nat.le_trans s7 al7.size
    clear L7 A7 B7 V7 X7 o7 G7 al7
    go_upto_region 8 with fail
    generalize w7.alloc (.cells #[.slice ga rs.log.length gc, .int .i64 rs.safe, .bool rs.up] 29) = w8 at *
    generalize w7.heap.size = bg at *
    generalize hq6 : w6.heap.size = q6 at *
    clear hq6
    obtain ⟨x0, x1, x2⟩ := Q8.srv
    obtain ⟨y0, y1, y2⟩ := B8.srv
    go_wp2_with fail
    refine (eqServer_same _ _ _ _ _ rs.log rs.safe rs.up _ (Nat.le_refl _) G8.ents (V8.mono (by omega)) hrl).mono ?_
    rintro _ w9 ⟨rfl, b9⟩
    clear x0 x1 x2 y0 y1 y2
    have L_9 := L8.trans (b9.mono L8.size)
    have A_9 := A8.below b9 A8.lt
    have V_9 := V8.below (b9.mono (by omega))
    have X_9 := X8.below b9 X8.lt
    have o_9 := o8.below b9 o8.lt
    have G_9 := G8.below b9 (Nat.le_refl _)
    have B_9 := B8.below b9 B8.lt
    have Q_9 := Q8.below b9 Q8.lt
    have sq9 := Nat.le_trans sq b9.size
    clear L8 A8 V8 X8 o8 G8 B8 Q8 sq
    have sq := sq9
    clear sq9 b9
    go_upto_region 10 with fail
    have Ld := L_9.drew
    have Xd := X_9.drew
    obtain ⟨x0, x1, x2⟩ := A_9.srv
    obtain ⟨y0, y1, y2⟩ := X_9.srv
    have od := o_9.below ((Below.refl w9.heap.size w9).drew) o_9.lt
    go_cut [45] (fun p wx => p = .bool false ∧ Below w9.heap.size w9 wx)
    case first =>
      go_region_with (first
        | (go_at_call 10; refine (HT.out _ Ld).mono ?_; rintro _ wa ⟨g3, rfl, hg3, o3, ba⟩; have Xa := Xd.below ba Xd.lt; have oa := od.below ba od.lt; obtain ⟨p0, p1, p2⟩ := Xa.srv)
        | (go_at_call 12; refine (eqServer_same _ _ _ _ _ es sf up _ (Nat.le_refl _) (oa.at_ oa.lt) (o3.at_ o3.lt) hl).mono ?_; rintro _ wb ⟨rfl, bb⟩; have bab := ((Below.refl w9.heap.size w9).drew).trans (ba.trans (bb.mono ba.size))))
      all_goals
        go_wp2
        go_meet
        exact ⟨rfl, bab⟩
    case rest =>
      obtain ⟨rfl, bc⟩ := hcut
      clear Ld Xd od x0 x1 x2 y0 y1 y2
      have L_10 := L_9.trans (bc.mono L_9.size)
      have A_10 := A_9.below bc A_9.lt
      have V_10 := V_9.below (bc.mono (by omega))
      have X_10 := X_9.below bc X_9.lt
      have o_10 := o_9.below bc o_9.lt
      have G_10 := G_9.below bc (Nat.le_refl _)
      have B_10 := B_9.below bc B_9.lt
      have Q_10 := Q_9.below bc Q_9.lt
      have sq10 := Nat.le_trans sq bc.size
      clear L_9 A_9 V_9 X_9 o_9 G_9 B_9 Q_9 sq
      have sq := sq10
      clear sq10 bc
      obtain ⟨x0, x1, x2⟩ := X_10.srv
      have hox : GotE g2 wc (some ⟨g2, 0, none⟩) es := .inr ⟨g2, _, rfl, Nat.le_refl _, o_10⟩
      go_wp2_with fail
      refine (markServer_any g2 _ _ es sf up _ (by omega) hox hl).mono ?_
      rintro _ wd ⟨rfl, md⟩
      have L_11 := L_10.trans (md.low.mono (by omega))
      have A_11 := md.box _ _ _ (by decide) A_10
      have V_11 := V_10.below (md.low.mono (by omega))
      have X_11 := md.box _ _ _ (by decide) X_10
      have G_11 := md.ents q6 _ _ (.inr fun g' e => by cases e; exact hg2q) G_10
      have B_11 := md.box _ _ _ (by decide) B_10
      have Q_11 := md.box _ _ _ (by decide) Q_10
      have sqd := Nat.le_trans sq md.size
      clear L_10 A_10 V_10 X_10 o_10 G_10 B_10 Q_10 sq hox md x0 x1 x2
      have sq := sqd
      clear sqd
      have hk1 : 0 ≤ (es.length : Int) * 7 + 1 := by omega
      obtain ⟨x0, x1, x2⟩ := Q_11.srv
      obtain ⟨y0, y1, y2⟩ := B_11.srv
      go_wp2_with fail
      refine (eqServer_same _ _ _ _ _ rs.log rs.safe rs.up _ (Nat.le_refl _) G_11.ents (V_11.mono (by omega)) hrl).mono ?_
      rintro _ we ⟨rfl, be⟩
      clear x0 x1 x2 y0 y1 y2
      have L_12 := L_11.trans (be.mono L_11.size)
      have A_12 := A_11.below be A_11.lt
      have V_12 := V_11.below (be.mono (by omega))
      have X_12 := X_11.below be X_11.lt
      have G_12 := G_11.below be (Nat.le_refl _)
      have B_12 := B_11.below be B_11.lt
      have Q_12 := Q_11.below be Q_11.lt
      have sq12 := Nat.le_trans sq be.size
      clear L_11 A_11 V_11 X_11 G_11 B_11 Q_11 sq
      have sq := sq12
      clear sq12 be
      obtain ⟨x0, x1, x2⟩ := Q_12.srv
      go_wp2_with fail
      refine (markServer_any q6 _ _ rs.log rs.safe rs.up _ (by omega) G_12 hrl).mono ?_
      rintro _ wf ⟨rfl, mf⟩
      have L_13 := L_12.trans (mf.low.mono (by omega))
      have A_13 := mf.box _ _ _ (by decide) A_12
      have V_13 := V_12.below (mf.low.mono (by omega))
      have B_13 := mf.box _ _ _ (by decide) B_12
      have Q_13 := mf.box _ _ _ (by decide) Q_12
      have M_13 := mf.got
      have sqf := Nat.le_trans sq mf.size
      clear L_12 A_12 V_12 X_12 G_12 B_12 Q_12 sq mf x0 x1 x2
      have sq := sqf
      clear sqf
      have hq1 : ¬ ((rs.log.length : Int) * 7 + 1 < 0) := by omega
      obtain ⟨x0, x1, x2⟩ := Q_13.srv
      go_wp2_with fail
      refine (heldServer_any _ _ rs.log.length rs.safe rs.up _ M_13.ents hrl).mono ?_
      rintro _ wg ⟨rfl, bg2⟩
      clear x0 x1 x2
      have L_14 := L_13.trans (bg2.mono L_13.size)
      have A_14 := A_13.below bg2 A_13.lt
      have V_14 := V_13.below (bg2.mono (by omega))
      have B_14 := B_13.below bg2 B_13.lt
      have Q_14 := Q_13.below bg2 Q_13.lt
      have M_14 := M_13.below bg2 (Nat.le_refl _)
      have sq14 := Nat.le_trans sq bg2.size
      clear L_13 A_13 V_13 B_13 Q_13 M_13 sq
      have sq := sq14
      clear sq14 bg2
      obtain ⟨x0, x1, x2⟩ := A_14.srv
      go_wp2_with fail
      refine (HT.out wg L_14).mono ?_
      rintro _ wh ⟨g4, rfl, hg4, o9, bh⟩
      clear x0 x1 x2
      have L_15 := L_14.trans (bh.mono L_14.size)
      have A_15 := A_14.below bh A_14.lt
      have V_15 := V_14.below (bh.mono (by omega))
      have B_15 := B_14.below bh B_14.lt
      have Q_15 := Q_14.below bh Q_14.lt
      have M_15 := M_14.below bh (Nat.le_refl _)
      have sq15 := Nat.le_trans sq bh.size
      clear L_14 A_14 V_14 B_14 Q_14 M_14 sq
      have sq := sq15
      clear sq15 bh
      go_wp2_with fail
      refine (HI.out g4 wh o9.lt (o9.at_ o9.lt) (ht.below L_15 hz)).mono ?_
      rintro _ wi ⟨ha, hc, rfl, H9, bi⟩
      clear o9 hg4
      have L_16 := L_15.trans (bi.mono L_15.size)
      have A_16 := A_15.below bi A_15.lt
      have V_16 := V_15.below (bi.mono (by omega))
      have B_16 := B_15.below bi B_15.lt
      have Q_16 := Q_15.below bi Q_15.lt
      have M_16 := M_15.below bi (Nat.le_refl _)
      have sq16 := Nat.le_trans sq bi.size
      clear L_15 A_15 V_15 B_15 Q_15 M_15 sq
      have sq := sq16
      clear sq16 bi
      have P9 := Bx.new wi 29 #[.slice ha rs.log.length hc, .int .i64 rs.safe, .bool rs.up]
      have al9 := (Below.refl wi.heap.size wi).alloc (Nat.le_refl _) (.cells #[.slice ha rs.log.length hc, .int .i64 rs.safe, .bool rs.up] 29)
      have H10 := (H9.ents.below al9).mono al9.size
      have L_17 := L_16.trans (al9.mono L_16.size)
      have A_17 := A_16.below al9 A_16.lt
      have V_17 := V_16.below (al9.mono (by omega))
      have B_17 := B_16.below al9 B_16.lt
      have Q_17 := Q_16.below al9 Q_16.lt
      have M_17 := M_16.below al9 (Nat.le_refl _)
      have sq17 := Nat.le_trans sq al9.size
      clear L_16 A_16 V_16 B_16 Q_16 M_16 sq
      have sq := sq17
      clear sq17 al9
      clear H9
      go_upto_region 25 with fail
      generalize wi.alloc (.cells #[.slice ha rs.log.length hc, .int .i64 rs.safe, .bool rs.up] 29) = wj at *
      generalize wi.heap.size = bh9 at *
      obtain ⟨x0, x1, x2⟩ := P9.srv
      obtain ⟨y0, y1, y2⟩ := B_17.srv
      go_wp2_with fail
      refine (eqServer_same _ _ _ _ _ rs.log rs.safe rs.up _ (Nat.le_refl _) H10 (V_17.mono (by omega)) hrl).mono ?_
      rintro _ wk ⟨rfl, bk⟩
      clear H10 P9 x0 x1 x2 y0 y1 y2
      have L_18 := L_17.trans (bk.mono L_17.size)
      have A_18 := A_17.below bk A_17.lt
      have V_18 := V_17.below (bk.mono (by omega))
      have B_18 := B_17.below bk B_17.lt
      have Q_18 := Q_17.below bk Q_17.lt
      have M_18 := M_17.below bk (Nat.le_refl _)
      have sq18 := Nat.le_trans sq bk.size
      clear L_17 A_17 V_17 B_17 Q_17 M_17 sq
      have sq := sq18
      clear sq18 bk
      obtain ⟨x0, x1, x2⟩ := Q_18.srv
      go_wp2_with fail
      refine (heldServer_any _ _ rs.log.length rs.safe rs.up _ M_18.ents hrl).mono ?_
      rintro _ wl ⟨rfl, bl⟩
      clear x0 x1 x2
      have Lf := L_18.trans (bl.mono L_18.size)
      clear bl A_18 V_18 B_18 Q_18 M_18
      go_wp2
      go_ret
      exact ⟨rfl, Lf⟩
end Go.Proofs.YtkecboeaiipjhaaDoor
