/-
  The walk of the law FnExactLogTree out of the contracts. Conditions: the argument reads as entries; the table 'creators' holds what its initialiser lays.
-/
import Derived.Test.YtpgnbehmghfneaaDoorGG
import Derived.Test.YtpgnbehmghfneaaDoorGN
namespace Go.Proofs.YtpgnbehmghfneaaDoor
open Go.ChangeShapes Go.WideShapes Go.ChangeAt Go.RowKit Go.Joins

theorem Got.butE {base b n : Nat} {w w' : World} {a : Option Addr} {rs : List RowD} (h : Got base w a rs) (hb : But b n w w') (hn : w.heap.size ≤ n) (hlt : b < base) : Got base w' a rs := by
  rcases h with h | ⟨g, C, e, hg, f, h1, h2⟩
  · exact .inl h
  · exact .inr ⟨g, C, e, hg, f, h1.of_block (hb.block g (Nat.lt_of_lt_of_le h1.lt hn) (by omega)), h2⟩
set_option maxRecDepth 100000 in
set_option maxHeartbeats 4000000 in
theorem fnExactLogTree_walk (w : World) (ht : Tab w) (a : Option Addr) (cap : Nat) (es : List EntD) (hm : es.length ≤ maxLen) (h : EntsAt w.heap.size w a es) (hf : ∀ i, i < es.length → EFit (eat es i)) :
    Calls Tryd.prog 7 #[.slice a es.length cap] w fun e w' => e = .returned (.bool true) ∧ Below w.heap.size w w' := by
  have hz := ht.pos
  go_enter Tryd.func7, Tryd.ntmps7
  go_wp2_with fail
  refine (szEntryS_any w.heap.size _ _ _ _ (Nat.le_refl _) h hf hm).mono ?_
  rintro e w1 ⟨z, rfl, hz', hb1⟩
  rcases hz' with hneg | ⟨hpos, _, hl⟩
  · go_wp2
    go_ret
    exact ⟨rfl, hb1⟩
  · have hfit : Hid (EntsFit es) := ⟨hl, hf⟩
    have HS : Hid (∀ (g : Nat) (x : World), g < x.heap.size → EntsAt x.heap.size x (some ⟨g, 0, none⟩) es → Calls Tryd.prog 23 #[.slice (some ⟨g, 0, none⟩) es.length es.length] x (RetOwn (ltree es) x)) := fun g x _ h2 => specLogTree_any x.heap.size _ _ es x (Nat.le_refl _) h2 hfit.out (Nat.le_refl _) hm
    have HI : Hid (∀ (g : Nat) (x : World), g < x.heap.size → EntsAt x.heap.size x (some ⟨g, 0, none⟩) es → Tab x → Calls Tryd.prog 24 #[.slice (some ⟨g, 0, none⟩) es.length es.length] x (RetOwn (ltree es) x)) := fun g x _ h2 h3 => implLogTree_any x.heap.size _ _ es x (Nat.le_refl _) h2 hfit.out h3
    have hrl : (ltree es).length ≤ 1048576 := by have := ltree_len es; omega
    generalize ltree es = res at *
    clear hf hfit
    have r1 := h.below hb1
    go_wp2_with fail
    refine (toEntryS_any w.heap.size _ _ _ _ hb1.size r1 hl).mono ?_
    rintro e w2 ⟨g1, rfl, hg1, o1, hb2⟩
    have b2 := hb1.trans (hb2.mono hb1.size)
    clear r1 hb2 hb1
    go_wp2_with fail
    refine (HS.out g1 w2 o1.lt (o1.at_ o1.lt)).mono ?_
    rintro e w3 ⟨va, vc, rfl, own3, _, hb3⟩
    have b3 := b2.trans (hb3.mono b2.size)
    have n3 := (got_own own3).rows
    have r3' := h.below b3
    clear o1 hb3 own3 b2 HS
    go_wp2_with fail
    refine (toEntryS_any w.heap.size _ _ _ _ b3.size r3' hl).mono ?_
    rintro e w6 ⟨g2, rfl, hg2, o2, hb6⟩
    have b6 := b3.trans (hb6.mono b3.size)
    have s6 := hb6.size
    have n6 := n3.below hb6
    clear r3' hb6 n3
    go_wp2_with fail
    refine (HI.out g2 w6 o2.lt (o2.at_ o2.lt) (ht.below b6 hz)).mono ?_
    rintro e w8 ⟨ga, gc, rfl, own8, _, hb8⟩
    have o8 := o2.below hb8 o2.lt
    have lt2 := o2.lt
    have b8 := b6.trans (hb8.mono b6.size)
    have s8 := hb8.size
    have n8 := n6.below (hb8.mono s6)
    have m8 := got_own own8
    clear o2 hb8 own8 n6 b6
    go_wp2_with fail
    refine (eqRowS_same w8.heap.size _ _ _ _ _ _ (Nat.le_refl _) m8.rows (n8.mono (by omega)) hrl).mono ?_
    rintro e w9 ⟨rfl, hb9⟩
    have o9 := o8.below hb9 o8.lt
    have b9 := b8.trans (hb9.mono b8.size)
    have s9 := hb9.size
    have n9 := n8.below (hb9.mono (by omega))
    have m9 := m8.below hb9 (Nat.le_refl _)
    have r9 := h.below b9
    clear o8 hb9 n8 m8 b8
    go_wp2_with fail
    refine (toEntryS_any w.heap.size _ _ _ _ b9.size r9 hl).mono ?_
    rintro e wa ⟨g3, rfl, hg3, o3, hba⟩
    have ba := b9.trans (hba.mono b9.size)
    have sa := hba.size
    have oa := o9.below hba o9.lt
    have na := n9.below (hba.mono (by omega))
    have ma := m9.below hba (Nat.le_refl _)
    clear o9 hba r9 n9 m9 b9
    go_wp2_with fail
    refine (eqEntryS_same wa.heap.size _ _ _ _ _ _ (Nat.le_refl _) (oa.at_ oa.lt) (o3.at_ o3.lt) hl).mono ?_
    rintro e wb ⟨rfl, hbb⟩
    have bb := ba.trans (hbb.mono ba.size)
    have sb := hbb.size
    have ob := oa.below hbb oa.lt
    have nb := na.below (hbb.mono (by omega))
    have mb := ma.below hbb (Nat.le_refl _)
    clear oa hbb na ma ba o3
    go_wp2_with fail
    refine (markEntryS_exC g2 _ _ es _ ob hl).mono ?_
    rintro e wd ⟨rfl, _, hbd⟩
    have sd := hbd.size
    have hbd' := hbd.below hg2 (show w3.heap.size ≤ wb.heap.size by omega)
    have bd := bb.trans (hbd'.mono b3.size)
    have nd := nb.below hbd'
    have md := mb.butE hbd (Nat.le_refl _) (by omega)
    have hk1 : 0 ≤ (es.length : Int) * 7 + 1 := by omega
    clear ob hbd hbd' nb mb bb
    go_wp2_with fail
    refine (eqRowS_same wd.heap.size _ _ _ _ _ _ (Nat.le_refl _) md.rows (nd.mono (by omega)) hrl).mono ?_
    rintro e we ⟨rfl, hbe⟩
    have be := bd.trans (hbe.mono bd.size)
    have se := hbe.size
    have ne := nd.below (hbe.mono (by omega))
    have me := md.below hbe (Nat.le_refl _)
    clear hbe nd md bd
    go_wp2_with fail
    refine (markRowS_got w6.heap.size _ _ res _ (by omega) me hrl).mono ?_
    rintro e wf ⟨rfl, mf, hbf⟩
    have sf := hbf.size
    have bf := be.trans (hbf.mono (by have := b3.size; omega))
    have nf := ne.below (hbf.mono (by omega))
    clear hbf ne me be
    have hq1 : ¬ ((res.length : Int) * 3 + 1 < 0) := by omega
    go_wp2_with fail
    refine (heldRowS_ex wf.heap.size _ _ res.length _ (Nat.le_refl _) mf.rows hrl).mono ?_
    rintro e wg ⟨rfl, hbg⟩
    have sg := hbg.size
    have bg := bf.trans (hbg.mono bf.size)
    have ng := nf.below (hbg.mono (by omega))
    have mg := mf.below hbg (Nat.le_refl _)
    have rg := h.below bg
    clear hbg nf mf bf
    go_wp2_with fail
    refine (toEntryS_any w.heap.size _ _ _ _ bg.size rg hl).mono ?_
    rintro e wh ⟨g4, rfl, hg4, o4, hbh⟩
    have bh := bg.trans (hbh.mono bg.size)
    have nh := ng.below (hbh.mono (by omega))
    have mh := mg.below hbh (Nat.le_refl _)
    have sh := hbh.size
    clear hbh ng mg bg rg
    go_wp2_with fail
    refine (HI.out g4 wh o4.lt (o4.at_ o4.lt) (ht.below bh hz)).mono ?_
    rintro e wj ⟨ha, hc, rfl, ownH, _, hbj⟩
    have mH := got_own ownH
    have nk := nh.below (hbj.mono (by omega))
    have mk := mh.below hbj (Nat.le_refl _)
    have bk := bh.trans (hbj.mono bh.size)
    have sk := hbj.size
    clear ownH hbj nh mh bh o4
    go_wp2_with fail
    refine (eqRowS_same _ _ _ _ _ _ _ (Nat.le_refl _) mH.rows (nk.mono (by omega)) hrl).mono ?_
    rintro e wl ⟨rfl, hbl⟩
    have ml := mk.below hbl (Nat.le_refl _)
    have bl := bk.trans (hbl.mono bk.size)
    clear hbl nk mk mH bk
    go_wp2_with fail
    refine (heldRowS_ex wl.heap.size _ _ res.length _ (Nat.le_refl _) ml.rows hrl).mono ?_
    rintro e wm ⟨rfl, hbm⟩
    have bm := bl.trans (hbm.mono bl.size)
    clear hbm ml bl
    go_wp2
    go_ret
    exact ⟨rfl, bm⟩
end Go.Proofs.YtpgnbehmghfneaaDoor
