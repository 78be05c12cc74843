/-
  The walk of the law FnExactLogAdd out of the contracts. Conditions: the arguments read as entries and an entry; the table 'creators' holds what its initialiser lays.
-/
import Derived.Test.YtpgnbehmghfneaaDoorGP
import Derived.Test.YtpgnbehmghfneaaDoorGN
import Derived.Test.YtpgnbehmghfneaaDoorJLEntryOk
namespace Go.Proofs.YtpgnbehmghfneaaDoor
open Go.ChangeShapes Go.WideShapes Go.ChangeAt Go.RowKit Go.Joins

def RetL (res : List EntD) (n : Int) (w : World) (r : Ending) (w' : World) : Prop :=
  ∃ a c, r = .returned (.tuple #[.slice a res.length c, .int .i64 n]) ∧ w'.ownsRow w.heap.size 30 7 (.slice a res.length c) res.length (cellsE res) ∧ Below w.heap.size w w'
theorem addL_len (es : List EntD) (e : EntD) : (addL es e).length ≤ 41 := by
  unfold addL
  cases h : okAdd es e
  · simp
  · have hl : es.length ≤ 40 := by
      have : logB es = true := by
        have h' := h
        unfold okAdd at h'
        simp only [Bool.and_eq_true] at h'; exact h'.1
      exact (logB_to this).2
    simp only [if_true]
    split
    · omega
    · split
      · simp; omega
      · omega
set_option maxRecDepth 100000 in
set_option maxHeartbeats 8000000 in
theorem fnExactLogAdd_walk (w : World) (ht : Tab w) (a : Option Addr) (cap : Nat) (es : List EntD) (hm : es.length ≤ maxLen) (h : EntsAt w.heap.size w a es) (hf : ∀ i, i < es.length → EFit (eat es i)) (en : EntD) (ho : EFit en) :
    Calls Tryd.prog 6 #[.slice a es.length cap, .agg #[.int .i64 en.who, .int .i64 en.seq, .int .i64 en.op.kind, .int .i64 en.op.id, .int .i64 en.op.up, .int .i64 en.op.at_, .string en.op.txt]] w fun e w' => e = .returned (.bool true) ∧ Below w.heap.size w w' := by
  have hz := ht.pos
  have hb0 : Below w.heap.size w (w.alloc (.cells #[.int .i64 en.who, .int .i64 en.seq, .int .i64 en.op.kind, .int .i64 en.op.id, .int .i64 en.op.up, .int .i64 en.op.at_, .string en.op.txt] 25)) := (Below.refl _ _).alloc (Nat.le_refl _) _
  go_enter Tryd.func6, Tryd.ntmps6
  go_wp2_with fail
  refine (szEntryS_any w.heap.size _ _ _ _ hb0.size (h.below hb0) hf hm).mono ?_
  rintro e w1 ⟨z, rfl, hz', hb1'⟩
  have HX := Lib.hid (lbox_new w en _ hb1')
  have hb1 := hb0.trans (hb1'.mono hb0.size)
  rcases hz' with hneg | ⟨hpos, hz1, hl⟩
  · go_wp2
    go_ret
    exact ⟨rfl, hb1⟩
  · have hfit := Lib.hid (show EntsFit es from ⟨hl, hf⟩)
    obtain ⟨x0, x1, x2, x3, x4, x5, x6⟩ := HX.out
    go_wp2_with fail
    refine (szEntry_any en z _ ho.op.txt hz1 hpos).mono ?_
    rintro e w2 ⟨z2, _, rfl, hb2'⟩
    have hb12 := hb1'.trans (hb2'.mono hb1'.size)
    clear x0 x1 x2 x3 x4 x5 x6 HX
    obtain ⟨x0, x1, x2, x3, x4, x5, x6⟩ := lbox_new w en _ hb12
    have b2 := hb1.trans (hb2'.mono hb1.size)
    clear hb2' hb1' hb1
    by_cases hz2 : z2 < 0
    · go_wp2
      go_ret
      exact ⟨rfl, b2⟩
    · have HB : Hid (∀ x, Below w2.heap.size w2 x → x.cell? ⟨w.heap.size, 0, none⟩ = some (.int .i64 en.who) ∧ x.cell? ⟨w.heap.size, 1, none⟩ = some (.int .i64 en.seq) ∧ x.cell? ⟨w.heap.size, 2, none⟩ = some (.int .i64 en.op.kind) ∧ x.cell? ⟨w.heap.size, 3, none⟩ = some (.int .i64 en.op.id) ∧ x.cell? ⟨w.heap.size, 4, none⟩ = some (.int .i64 en.op.up) ∧ x.cell? ⟨w.heap.size, 5, none⟩ = some (.int .i64 en.op.at_) ∧ x.cell? ⟨w.heap.size, 6, none⟩ = some (.string en.op.txt)) := fun x hx => lbox_new w en _ (hb12.trans (hx.mono hb12.size))
      have r2d : EntsAt w.heap.size w2.drew a es := h.below (b2.trans ((Below.refl _ _).drew))
      have hs2 : w.heap.size ≤ w2.drew.heap.size := b2.size
      have hd2 : Below w2.heap.size w2 w2.drew := (Below.refl _ _).drew
      have HS : Hid (∀ (g : Nat) (x : World), g < x.heap.size → EntsAt x.heap.size x (some ⟨g, 0, none⟩) es → Calls Tryd.prog 19 #[.slice (some ⟨g, 0, none⟩) es.length es.length, .agg #[.int .i64 en.who, .int .i64 en.seq, .int .i64 en.op.kind, .int .i64 en.op.id, .int .i64 en.op.up, .int .i64 en.op.at_, .string en.op.txt]] x (RetL (addL es en) (addN es en) x)) := fun g x h1 h2 => specLogAdd_any g 0 _ es en x h1 h2 hfit.out ho (Nat.le_refl _) (by unfold maxLen; omega)
      have HI : Hid (∀ (g : Nat) (x : World), g < x.heap.size → EntsAt x.heap.size x (some ⟨g, 0, none⟩) es → Tab x → Calls Tryd.prog 20 #[.slice (some ⟨g, 0, none⟩) es.length es.length, .agg #[.int .i64 en.who, .int .i64 en.seq, .int .i64 en.op.kind, .int .i64 en.op.id, .int .i64 en.op.up, .int .i64 en.op.at_, .string en.op.txt]] x (RetL (addL es en) (addN es en) x)) := fun g x h1 h2 h3 => implLogAdd_any g 0 _ es en x h1 h2 hfit.out ho h3
      have hdl := addL_len es en
      generalize addL es en = res at *
      generalize addN es en = nn at *
      have hrl : res.length ≤ 1048576 := by omega
      clear hb12 hdl
      go_upto_region 8 with fail
      go_cut [6, 7] (fun p q wx => ∃ va vc, p = .slice va res.length vc ∧ q = .int .i64 nn ∧ wx.ownsRow w2.heap.size 30 7 (.slice va res.length vc) res.length (cellsE res) ∧ Below w2.heap.size w2 wx)
      case first =>
        go_region_with (first
          | (go_at_call 14; refine (toEntryS_any w.heap.size _ _ _ _ hs2 r2d hl).mono ?_; rintro e w3 ⟨g1, rfl, hg1, o1, hb3⟩; have hb3' := hd2.trans hb3; obtain ⟨y0, y1, y2, y3, y4, y5, y6⟩ := HB.out w3 hb3')
          | (go_at_call 10; refine (toEntry_any en _).mono ?_; rintro e w4 ⟨rfl, hb4⟩; have o4 := o1.below hb4 o1.lt)
          | (go_at_call 19; refine (HS.out g1 _ o4.lt (o4.at_ o4.lt)).mono ?_; rintro e w5 ⟨va, vc, rfl, own5, hb5⟩; have hb35 := hb3'.trans (hb4.mono hb3'.size); have hb45 := hb35.trans (hb5.mono hb35.size)))
        all_goals
          go_wp2
          go_meet
          exact ⟨_, _, rfl, rfl, own_mono own5 hb35.size, hb45⟩
      case rest =>
        obtain ⟨va, vc, rfl, rfl, ownW, hbc⟩ := hcut
        have bc := b2.trans (hbc.mono b2.size)
        have rc := h.below bc
        have gW := (gotE_own ownW).ents
        have s2c := hbc.size
        clear r2d hs2 hd2 x0 x1 x2 x3 x4 x5 x6 ownW HS
        go_wp2_with fail
        refine (toEntryS_any w.heap.size _ _ _ _ bc.size rc hl).mono ?_
        rintro e w6 ⟨g2, rfl, hg2, o2, hb6⟩
        have hb26 := hbc.trans (hb6.mono hbc.size)
        have b6 := bc.trans (hb6.mono bc.size)
        have s6 := hb6.size
        have n6 := gW.below hb6
        obtain ⟨y0, y1, y2, y3, y4, y5, y6⟩ := HB.out w6 hb26
        clear rc hb6 gW hbc
        go_wp2_with fail
        refine (toEntry_any en _).mono ?_
        rintro e w7 ⟨rfl, hb7⟩
        have o7 := o2.below hb7 o2.lt
        have b7 := b6.trans (hb7.mono b6.size)
        have hb27 := hb26.trans (hb7.mono hb26.size)
        have s7 := hb7.size
        have n7 := n6.below (hb7.mono s6)
        have lt2 := o2.lt
        clear o2 hb7 y0 y1 y2 y3 y4 y5 y6 n6 hb26 b6
        go_wp2_with fail
        refine (HI.out g2 _ o7.lt (o7.at_ o7.lt) (ht.below b7 hz)).mono ?_
        rintro e w8 ⟨ga, gc, rfl, own8, hb8⟩
        have o8 := o7.below hb8 o7.lt
        have b8 := b7.trans (hb8.mono b7.size)
        have hb28 := hb27.trans (hb8.mono hb27.size)
        have s8 := hb8.size
        have n8 := n7.below (hb8.mono (by omega))
        have m8 := gotE_own own8
        clear o7 hb8 own8 n7 b7 hb27
        go_wp2_with fail
        refine (eqEntryS_same w8.heap.size _ _ _ _ _ _ (Nat.le_refl _) m8.ents (n8.mono (by omega)) hrl).mono ?_
        rintro e w9 ⟨rfl, hb9⟩
        have o9 := o8.below hb9 o8.lt
        have b9 := b8.trans (hb9.mono b8.size)
        have hb29 := hb28.trans (hb9.mono hb28.size)
        have s9 := hb9.size
        have n9 := n8.below (hb9.mono (by omega))
        have m9 := m8.below hb9 (Nat.le_refl _)
        have r9 := h.below b9
        clear o8 hb9 n8 m8 b8 hb28
        go_wp2_with fail
        refine (toEntryS_any w.heap.size _ _ _ _ b9.size r9 hl).mono ?_
        rintro e wa ⟨g3, rfl, hg3, o3, hba⟩
        have ba := b9.trans (hba.mono b9.size)
        have hb2a := hb29.trans (hba.mono hb29.size)
        have sa := hba.size
        have oa := o9.below hba o9.lt
        have na := n9.below (hba.mono (by omega))
        have ma := m9.below hba (Nat.le_refl _)
        clear o9 hba r9 n9 m9 b9 hb29
        go_wp2_with fail
        refine (eqEntryS_same wa.heap.size _ _ _ _ _ _ (Nat.le_refl _) (oa.at_ oa.lt) (o3.at_ o3.lt) hl).mono ?_
        rintro e wb ⟨rfl, hbb⟩
        have bb := ba.trans (hbb.mono ba.size)
        have hb2b := hb2a.trans (hbb.mono hb2a.size)
        have sb := hbb.size
        have ob := oa.below hbb oa.lt
        have nb := na.below (hbb.mono (by omega))
        have mb := ma.below hbb (Nat.le_refl _)
        clear oa hbb na ma ba hb2a o3
        go_wp2_with fail
        refine (markEntryS_exC g2 _ _ es _ ob hl).mono ?_
        rintro e wd ⟨rfl, _, hbd⟩
        have sd := hbd.size
        have hbd' := hbd.below hg2 (show wc.heap.size ≤ wb.heap.size by omega)
        have bd := bb.trans (hbd'.mono bc.size)
        have hb2d := hb2b.trans (hbd'.mono s2c)
        have nd := nb.below hbd'
        have md := mb.but hbd (Nat.le_refl _) (by omega)
        have hk1 : 0 ≤ (es.length : Int) * 7 + 1 := by omega
        clear ob hbd hbd' nb mb bb hb2b
        go_wp2_with fail
        refine (eqEntryS_same wd.heap.size _ _ _ _ _ _ (Nat.le_refl _) md.ents (nd.mono (by omega)) hrl).mono ?_
        rintro e we ⟨rfl, hbe⟩
        have be := bd.trans (hbe.mono bd.size)
        have hb2e := hb2d.trans (hbe.mono hb2d.size)
        have se := hbe.size
        have ne := nd.below (hbe.mono (by omega))
        have me := md.below hbe (Nat.le_refl _)
        clear hbe nd md bd hb2d
        go_wp2_with fail
        refine (markEntryS_got w7.heap.size _ _ res _ (by omega) me hrl).mono ?_
        rintro e wf ⟨rfl, mf, hbf⟩
        have sf := hbf.size
        have bf := be.trans (hbf.mono (by have := b2.size; omega))
        have hb2f := hb2e.trans (hbf.mono (by omega))
        have nf := ne.below (hbf.mono (by omega))
        clear hbf ne me be hb2e
        have hq1 : ¬ ((res.length : Int) * 7 + 1 < 0) := by omega
        go_wp2_with fail
        refine (heldEntryS_ex wf.heap.size _ _ res.length _ (Nat.le_refl _) mf.ents hrl).mono ?_
        rintro e wg ⟨rfl, hbg⟩
        have sg := hbg.size
        have bg := bf.trans (hbg.mono bf.size)
        have hb2g := hb2f.trans (hbg.mono hb2f.size)
        have ng := nf.below (hbg.mono (by omega))
        have mg := mf.below hbg (Nat.le_refl _)
        have rg : EntsAt w.heap.size wg.drew a es := h.below (bg.trans ((Below.refl _ _).drew))
        have hsg : w.heap.size ≤ wg.drew.heap.size := bg.size
        have hdg : Below wg.heap.size wg wg.drew := (Below.refl _ _).drew
        obtain ⟨x0, x1, x2, x3, x4, x5, x6⟩ := HB.out wg hb2g
        clear hbg nf mf bf hb2f
        go_upto_region 27 with fail
        go_cut [14, 15] (fun p q wx => ∃ va vc, p = .slice va res.length vc ∧ q = .int .i64 nn ∧ wx.ownsRow wg.heap.size 30 7 (.slice va res.length vc) res.length (cellsE res) ∧ Below wg.heap.size wg wx)
        case first =>
          go_region_with (first
            | (go_at_call 14; refine (toEntryS_any w.heap.size _ _ _ _ hsg rg hl).mono ?_; rintro e wh ⟨g4, rfl, hg4, o4, hbh⟩; have hbh' := hdg.trans hbh; obtain ⟨y0, y1, y2, y3, y4, y5, y6⟩ := HB.out wh (hb2g.trans (hbh'.mono hb2g.size)))
            | (go_at_call 10; refine (toEntry_any en _).mono ?_; rintro e wi ⟨rfl, hbi⟩; have o5 := o4.below hbi o4.lt; have hbi' := hbh'.trans (hbi.mono hbh'.size); have bi := bg.trans (hbi'.mono bg.size))
            | (go_at_call 20; refine (HI.out g4 _ o5.lt (o5.at_ o5.lt) (ht.below bi hz)).mono ?_; rintro e wj ⟨va, vc, rfl, own5, hb5⟩; have hbj := hbi'.trans (hb5.mono hbi'.size)))
          all_goals
            go_wp2
            go_meet
            exact ⟨_, _, rfl, rfl, own_mono own5 hbi'.size, hbj⟩
        case rest =>
          obtain ⟨ha, hc, rfl, rfl, ownH, hbk⟩ := hcut
          have mH := gotE_own ownH
          have nk := ng.below (hbk.mono (by omega))
          have mk := mg.below hbk (Nat.le_refl _)
          have bk := bg.trans (hbk.mono bg.size)
          have sk := hbk.size
          clear ownH hbk ng mg bg rg hsg hdg x0 x1 x2 x3 x4 x5 x6
          go_wp2_with fail
          refine (eqEntryS_same _ _ _ _ _ _ _ (Nat.le_refl _) mH.ents (nk.mono (by omega)) hrl).mono ?_
          rintro e wl ⟨rfl, hbl⟩
          have ml := mk.below hbl (Nat.le_refl _)
          have bl := bk.trans (hbl.mono bk.size)
          clear hbl nk mk mH bk
          go_wp2_with fail
          refine (heldEntryS_ex wl.heap.size _ _ res.length _ (Nat.le_refl _) ml.ents hrl).mono ?_
          rintro e wm ⟨rfl, hbm⟩
          have bm := bl.trans (hbm.mono bl.size)
          clear hbm ml bl
          go_wp2
          go_ret
          exact ⟨rfl, bm⟩
end Go.Proofs.YtpgnbehmghfneaaDoor
