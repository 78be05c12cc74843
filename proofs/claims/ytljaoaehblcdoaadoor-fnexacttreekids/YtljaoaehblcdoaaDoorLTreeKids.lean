/-
  The walk of the law FnExactTreeKids out of the contracts. Conditions: the argument reads as rows; the table 'creators' holds what its initialiser lays.
-/
import Derived.Test.YtljaoaehblcdoaaDoorTImpl3
import Derived.Test.YtljaoaehblcdoaaDoorLTreeOk
import Derived.Test.YtljaoaehblcdoaaDoorMarkRows
namespace Go.Proofs.YtljaoaehblcdoaaDoor
open Go.ChangeShapes Go.WideShapes Go.ChangeAt Go.RowKit Go.Joins

theorem kidsT_len {rs : List RowD} {id : Int} (hl : rs.length ≤ 1048576) : (kidsT rs id).length ≤ 1048576 := by
  unfold kidsT
  split
  · unfold kidsL
    split
    · rename_i h
      have h1 := kidsOf_len rs (atN rs id) (enR rs (atN rs id) - (atN rs id + 1)) (atN rs id + 1)
      have h2 := (en_spec (D := rdep rs) h).2.1
      unfold kidsAt
      have h3 : enR rs (atN rs id) ≤ rs.length := h2
      omega
    · simp
  · simp
set_option maxRecDepth 100000 in
set_option maxHeartbeats 1000000 in
theorem fnExactTreeKids_walk (w : World) (ht : Tab w) (a : Option Addr) (cap : Nat) (rs : List RowD) (hm : rs.length ≤ maxLen) (h : RowsAt w.heap.size w a rs) (hf : FitW rs) (id : Int) (_hi : I64 id) :
    Calls Tryd.prog 6 #[.slice a rs.length cap, .int .i64 id] w fun e w' => e = .returned (.bool true) ∧ Below w.heap.size w w' := by
  have hz := ht.pos
  go_enter Tryd.func6, Tryd.ntmps6
  go_wp2_with fail
  refine (szRowS_any w.heap.size _ _ _ _ (Nat.le_refl _) h hf hm).mono ?_
  rintro e w1 ⟨z, rfl, hz', hb1⟩
  rcases hz' with hneg | ⟨hpos, hl⟩
  · go_wp2
    go_ret
    exact ⟨rfl, hb1⟩
  · have hfit := Lib.hid (fit_of hf hl)
    have hkl := kidsT_len (id := id) hl
    have r1 := h.below hb1
    go_wp2_with fail
    refine (toRowS_any w.heap.size _ _ _ _ hb1.size r1 hl).mono ?_
    rintro e w2 ⟨g1, rfl, hg1, o1, hb2⟩
    have b2 : Below w.heap.size w w2 := hb1.trans (hb2.mono hb1.size)
    go_wp2_with fail
    refine (specTreeKids_any w2.heap.size _ _ _ _ _ (Nat.le_refl _) (o1.at_ o1.lt) hfit.out).mono ?_
    rintro e w3 ⟨v3, rfl, ow3, hb3⟩
    have b3 : Below w.heap.size w w3 := b2.trans (hb3.mono b2.size)
    have r3 := h.below b3
    obtain ⟨a3, c3, rfl, _⟩ := own_slice ow3
    have n3 := (ints_of_own ow3).low
    clear ow3 o1 hb2 hb3 r1 b2 hb1
    go_wp2_with fail
    refine (toRowS_any w.heap.size _ _ _ _ b3.size r3 hl).mono ?_
    rintro e w4 ⟨g2, rfl, hg2, o2, hb4⟩
    have b4 : Below w.heap.size w w4 := b3.trans (hb4.mono b3.size)
    have n4 := n3.below hb4
    have s34 := hb4.size
    go_wp2_with fail
    refine (implTreeKids_any w4.heap.size _ _ _ _ _ (Nat.le_refl _) (o2.at_ o2.lt) hfit.out (ht.below b4 hz)).mono ?_
    rintro e w5 ⟨v5, rfl, ow5, hb5⟩
    have b5 : Below w.heap.size w w5 := b4.trans (hb5.mono b4.size)
    obtain ⟨a5, c5, rfl, _⟩ := own_slice ow5
    have m5 := ints_of_own ow5
    have n5 := n4.below (hb5.mono s34)
    have o5 := o2.below hb5 o2.lt
    have lt2 := o2.lt
    have s45 := hb5.size
    clear ow5 n3 n4 hb4 hb5 r3
    generalize hxs : kidsT rs id = xs at *
    have HX := Lib.hid hxs
    clear hxs
    go_wp2_with fail
    refine (eqIntS_same w5.heap.size _ _ _ _ _ _ (Nat.le_refl _) m5.low (n5.mono (Nat.le_trans s34 s45)) hkl).mono ?_
    rintro e w6 ⟨rfl, hb6⟩
    have b6 : Below w.heap.size w w6 := b5.trans (hb6.mono b5.size)
    have m6 := m5.below hb6 (Nat.le_refl _)
    have n6 := n5.below (hb6.mono (by omega))
    have o6 := o5.below hb6 o5.lt
    have s56 := hb6.size
    have r6 := h.below b6
    clear m5 n5 o5 hb6
    go_wp2_with fail
    refine (toRowS_any w.heap.size _ _ _ _ b6.size r6 hl).mono ?_
    rintro e w7 ⟨g3, rfl, hg3, o3, hb7⟩
    have b7 : Below w.heap.size w w7 := b6.trans (hb7.mono b6.size)
    have m7 := m6.below hb7 (Nat.le_refl _)
    have n7 := n6.below (hb7.mono (by omega))
    have o7 := o6.below hb7 o6.lt
    have s67 := hb7.size
    clear m6 n6 o6 hb7 r6
    go_wp2_with fail
    refine (eqRowS_same w7.heap.size _ _ _ _ _ _ (Nat.le_refl _) (o7.at_ o7.lt) (o3.at_ o3.lt) hl).mono ?_
    rintro e w8 ⟨rfl, hb8⟩
    have b8 : Below w.heap.size w w8 := b7.trans (hb8.mono b7.size)
    have m8 := m7.below hb8 (Nat.le_refl _)
    have n8 := n7.below (hb8.mono (by omega))
    have o8 := o7.below hb8 o7.lt
    have s78 := hb8.size
    clear m7 n7 o7 o3 hb8
    go_wp2_with fail
    refine (markRowS_any g2 _ rs _ o8 hl).mono ?_
    rintro e w9 ⟨rfl, hb9⟩
    have s89 := hb9.size
    have hg2w : w.heap.size ≤ g2 := Nat.le_trans b3.size hg2
    have b9 : Below w.heap.size w w9 := b8.trans (hb9.below hg2w b8.size)
    have m9 := m8.but hb9 lt2
    have n9 := n8.below (hb9.below hg2 (by omega))
    clear m8 n8 o8 hb9
    have hk1 : 0 ≤ (rs.length : Int) * 3 + 1 := by omega
    go_wp2_with fail
    refine (eqIntS_same w9.heap.size _ _ _ _ _ _ (Nat.le_refl _) m9.low (n9.mono (by omega)) hkl).mono ?_
    rintro e wa ⟨rfl, hba⟩
    have ba : Below w.heap.size w wa := b9.trans (hba.mono b9.size)
    have ma := m9.below hba (Nat.le_refl _)
    have na := n9.below (hba.mono (by omega))
    have s9a := hba.size
    clear m9 n9 hba
    go_wp2_with fail
    refine (markIntS_any w4.heap.size _ _ xs _ (by omega) ma hkl).mono ?_
    rintro e wb ⟨rfl, mb, hbb⟩
    have bb : Below w.heap.size w wb := ba.trans (hbb.mono b4.size)
    have nb := na.below (hbb.mono s34)
    have sab := hbb.size
    clear ma na hbb
    go_wp2_with fail
    refine (heldIntS_any wb.heap.size _ _ xs.length _ mb.low hkl).mono ?_
    rintro e w' ⟨rfl, rfl⟩
    have rb := h.below bb
    have hq1 : ¬ ((xs.length : Int) + 1 < 0) := by omega
    go_wp2_with fail
    refine (toRowS_any w.heap.size _ _ _ _ bb.size rb hl).mono ?_
    rintro e wc ⟨g4, rfl, hg4, o4, hbc⟩
    have bc : Below w.heap.size w wc := bb.trans (hbc.mono bb.size)
    have mc := mb.below hbc (Nat.le_refl _)
    have nc := nb.below (hbc.mono (by omega))
    have sbc := hbc.size
    clear mb nb hbc rb
    go_wp2_with fail
    refine (implTreeKids_any wc.heap.size _ _ _ _ _ (Nat.le_refl _) (o4.at_ o4.lt) hfit.out (ht.below bc hz)).mono ?_
    rintro e wd ⟨v6, rfl, ow6, hbd⟩
    rw [HX.out] at ow6
    have bd : Below w.heap.size w wd := bc.trans (hbd.mono bc.size)
    obtain ⟨a6, c6, rfl, _⟩ := own_slice ow6
    have m6 := ints_of_own ow6
    have md := mc.below hbd (Nat.le_refl _)
    have nd := nc.below (hbd.mono (by omega))
    have scd := hbd.size
    clear ow6 mc nc hbd o4
    go_wp2_with fail
    refine (eqIntS_same wd.heap.size _ _ _ _ _ _ (Nat.le_refl _) m6.low (nd.mono (by omega)) hkl).mono ?_
    rintro e we ⟨rfl, hbe⟩
    have be : Below w.heap.size w we := bd.trans (hbe.mono bd.size)
    have me := md.below hbe (Nat.le_refl _)
    clear md nd m6 hbe
    go_wp2_with fail
    refine (heldIntS_any we.heap.size _ _ xs.length _ me.low hkl).mono ?_
    rintro e w' ⟨rfl, rfl⟩
    go_wp2
    go_ret
    exact ⟨rfl, be⟩
end Go.Proofs.YtljaoaehblcdoaaDoor
