/-
  Plain mathematics of the editing commands: where a row stands behind them. Nothing of the program is run here. Conditions: none beyond the lemmas' own premises.
-/
import Derived.Test.YtclhjgcapalniaaDoorJKeyM
namespace Go.Proofs.YtclhjgcapalniaaDoor

section
variable {rs : List RowD} {id : Int}
theorem kout_tree (h : koutB rs id = true) : treeB (doT rs (koutO rs id)) = true := by
  rw [doT_is (kout_parts h).1 (kout_ok h)]; exact do_tree (kout_parts h).1 (kout_ok h)
/-- What moving a row out does. -/
theorem out_put (h : koutB rs id = true) : thereB (restR rs (atN rs id)) (upAt rs (atN rs id)) = true ∧ PutOk (restR rs (atN rs id)) (subR rs (atN rs id)) (upAt rs (atN rs (upAt rs (atN rs id)))) (upAt rs (atN rs id)) ∧ doT rs (koutO rs id) = putR (restR rs (atN rs id)) (subR rs (atN rs id)) (upAt rs (atN rs (upAt rs (atN rs id)))) (upAt rs (atN rs id)) ∧
    rdep (restR rs (atN rs id)) (atN (restR rs (atN rs id)) (upAt rs (atN rs (upAt rs (atN rs id))))) + 1 = rdep rs (atN rs id) - 1 := by
  have hok := kout_ok h
  obtain ⟨ht, hm, hid, hu, _, _, e⟩ := kout_parts h
  obtain ⟨u1, u2, _⟩ := up_facts ht hm hid
  have hil := there_iff.1 hid
  have hr : rootB (rat rs (atN rs id)).id = false := by rw [atN_id hil]; exact made_root hm
  obtain ⟨_, _, F⟩ := tree_putF ht hil hr
  have hR := rest_tree ht hm hid
  have hov := F.up_at u2
  have v := (up_facts hR hu u2).1
  rw [← hov] at v
  obtain ⟨hP, ex⟩ := move_to (at' := upAt rs (atN rs id)) ht hm hid v
  have hA : goA (restR rs (atN rs id)) (moveO id (upAt rs (atN rs (upAt rs (atN rs id)))) (upAt rs (atN rs id))) = upAt rs (atN rs id) := by
    unfold goA
    rw [show (moveO id (upAt rs (atN rs (upAt rs (atN rs id)))) (upAt rs (atN rs id))).up = upAt rs (atN rs (upAt rs (atN rs id))) from rfl, show (moveO id (upAt rs (atN rs (upAt rs (atN rs id)))) (upAt rs (atN rs id))).at_ = upAt rs (atN rs id) from rfl, v, u2, hov]
    simp
  rw [hA] at hP ex
  refine ⟨u2, hP, by rw [doT_is ht hok, e, ex], ?_⟩
  have k1 := (kid_place hR v u2 hov.symm).2.2
  have k2 := rest_dep ht (there_iff.1 u2)
  have k3 := (kid_place ht u1 hid rfl).2.2
  omega
theorem out_facts (h : koutB rs id = true) : hasB (doT rs (koutO rs id)) id = true ∧ upI (doT rs (koutO rs id)) id = upAt rs (atN rs (upAt rs (atN rs id))) ∧ ahB (doT rs (koutO rs id)) id = true ∧ ahI (doT rs (koutO rs id)) id = upAt rs (atN rs id) ∧
    rdep (doT rs (koutO rs id)) (atN (doT rs (koutO rs id)) id) = rdep rs (atN rs id) - 1 := by
  have hx := kout_tree h
  obtain ⟨ht, hm, hid, hu, _, _, _⟩ := kout_parts h
  obtain ⟨_, hP, ex, hd⟩ := out_put h
  have hat : atN (doT rs (koutO rs id)) id = placeN (restR rs (atN rs id)) (upAt rs (atN rs (upAt rs (atN rs id)))) (upAt rs (atN rs id)) := by rw [ex]; exact hP.at_head (sub_head hid)
  have hth : thereB (doT rs (koutO rs id)) id = true := by rw [ex]; exact hP.facts.there.2 (.inr ⟨0, hP.h0, sub_head hid⟩)
  have hup : upAt (doT rs (koutO rs id)) (atN (doT rs (koutO rs id)) id) = upAt rs (atN rs (upAt rs (atN rs id))) := by rw [hat, ex]; exact hP.upH
  have hah : ahAt (doT rs (koutO rs id)) (atN (doT rs (koutO rs id)) id) = upAt rs (atN rs id) := by rw [hat, ex]; exact hP.ahH
  have hdp : rdep (doT rs (koutO rs id)) (atN (doT rs (koutO rs id)) id) = rdep rs (atN rs id) - 1 := by rw [hat, ex, hP.facts.d0]; exact hd
  have hh : hasB (doT rs (koutO rs id)) id = true := hasB_iff.2 ⟨hx, there_iff.1 hth⟩
  have ha : ahB (doT rs (koutO rs id)) id = true := by unfold ahB; rw [hh, made_root hm]; rfl
  refine ⟨hh, ?_, ha, ?_, hdp⟩
  · unfold upI; rw [hh, if_pos rfl]; exact hup
  · unfold ahI; rw [ha, if_pos rfl]; exact hah
/-- Out, and in, a last row is where it was. -/
theorem out_in (h : koutB rs id = true) (hlast : lastK rs (upAt rs (atN rs id)) = id) : kinB (doT rs (koutO rs id)) id = true ∧ doT (doT rs (koutO rs id)) (kinO (doT rs (koutO rs id)) id) = rs := by
  have hx := kout_tree h
  have hok := kout_ok h
  obtain ⟨ht, hm, hid, hu, _, _, e⟩ := kout_parts h
  obtain ⟨f1, f2, f3, f4, f5⟩ := out_facts h
  obtain ⟨u2, hP, ex, hd⟩ := out_put h
  obtain ⟨u1, _, _⟩ := up_facts ht hm hid
  have hT := treeP_of ht
  have hil := there_iff.1 hid
  have hr : rootB (rat rs (atN rs id)).id = false := by rw [atN_id hil]; exact made_root hm
  obtain ⟨p1, p2, p3⟩ := tree_put ht hil hr
  have F0 := p1.facts
  rw [p2, p3] at F0
  have hki : kinB (doT rs (koutO rs id)) id = true := by
    unfold kinB
    have := (madeB_iff _).1 hu
    rw [f3, f4]
    simp
    omega
  obtain ⟨_, _, hid2, _, ek, ei⟩ := kin_parts hki
  rw [f4] at ei
  have hatu : atN rs (upAt rs (atN rs id)) = atN (restR rs (atN rs id)) (upAt rs (atN rs id)) := by
    have := F0.at_rest (there_iff.1 u2)
    rw [atN_id (there_iff.1 u2), if_pos F0.lt] at this
    exact this
  -- the place of the row, and of the one above it
  obtain ⟨u, hu1, eu, hdu, hbu⟩ := up_spec ht hil hr
  have eu2 : atN rs (upAt rs (atN rs id)) = u := by rw [eu]; exact hT.at_self (by omega)
  have eu3 : atN (restR rs (atN rs id)) (upAt rs (atN rs id)) = u := by rw [← hatu]; exact eu2
  obtain ⟨e1, e2, e3, e4⟩ := en_spec (D := rdep rs) hil
  have e' : enR rs (atN rs id) = en (rdep rs) rs.length (atN rs id) := rfl
  have hul : u < rs.length := by omega
  obtain ⟨g1, g2, g3, g4⟩ := en_spec (D := rdep rs) hul
  have g' : enR rs u = en (rdep rs) rs.length u := rfl
  have hkid := kid_place ht u1 hid rfl
  rw [eu2] at hkid
  -- nothing stands behind it under the same
  have hend : enR rs (atN rs id) = enR rs u := by
    have hle : enR rs (atN rs id) ≤ enR rs u := by
      rcases Nat.lt_or_ge (enR rs u) (enR rs (atN rs id)) with q | q
      · have a1 := e3 (enR rs u) (by omega) (by omega)
        have a2 := g4 (by omega)
        rw [← g'] at a2
        omega
      · exact q
    rcases Nat.lt_or_ge (enR rs (atN rs id)) (enR rs u) with q | q
    · exfalso
      have a1 := e4 (by omega)
      rw [← e'] at a1
      have a2 := g3 (enR rs (atN rs id)) (by omega) (by omega)
      have a3 : rdep rs (enR rs (atN rs id)) = rdep rs u + 1 := by omega
      have hkl : kidsL rs (upAt rs (atN rs id)) = kidsOf rs u (u + 1) (enR rs u - (u + 1)) := by rw [kidsL_yes (there_iff.1 u1), eu2]
      rcases kids_last rs u (enR rs u - (u + 1)) (u + 1) with ⟨_, c2⟩ | ⟨l, c1, c2, c3, c4, _, c6⟩
      · exact c2 (atN rs id) (by omega) (by omega) (by omega)
      · unfold lastK at hlast
        rw [hkl, c6] at hlast
        have : l = atN rs id := by
          have := hT.at_self (show l < rs.length by omega)
          rw [hlast] at this; exact this.symm
        rw [this] at c4
        exact c4 _ (by omega) (by omega) a3
    · omega
  obtain ⟨r1, r2⟩ := rest_rat hil
  have hlen := (rest_len hil).1
  have hsl := sub_len hil
  have hk1 : atN rs id ≤ (restR rs (atN rs id)).length := by omega
  have d1 : ∀ j, j < atN rs id → rdep (restR rs (atN rs id)) j = rdep rs j := fun j hj => by unfold rdep; rw [r1 j hj]
  have henr : enR (restR rs (atN rs id)) u = atN rs id := by
    unfold enR
    refine en_uniq (by omega) hk1 (fun j j1 j2 => ?_) (fun q => ?_)
    · rw [d1 u hu1, d1 j j2]; have := hbu j j1 j2; omega
    · have q2 : rdep (restR rs (atN rs id)) (atN rs id) = rdep rs (enR rs (atN rs id)) := by unfold rdep; rw [r2 _ (Nat.le_refl _), show atN rs id + (enR rs (atN rs id) - atN rs id) = enR rs (atN rs id) by omega]
      rw [q2, d1 u hu1, hend]
      exact g4 (by omega)
  have hplace : placeN (restR rs (atN rs id)) (upAt rs (atN rs (upAt rs (atN rs id)))) (upAt rs (atN rs id)) = atN rs id := by
    unfold placeN
    have := (madeB_iff _).1 hu
    rw [if_pos (by omega), eu3, henr]
  have F := hP.facts
  rw [← ex, hplace] at F
  have hxl := F.len
  have hn := F.n0
  have hxu : atN (doT rs (koutO rs id)) (upAt rs (atN rs id)) = u := by
    have := F.at_rest (there_iff.1 u2)
    rw [atN_id (there_iff.1 u2), eu3, if_pos hu1] at this
    exact this
  have hxen : enR (doT rs (koutO rs id)) u = atN rs id := by
    unfold enR
    refine en_uniq (by omega) (by omega) (fun j j1 j2 => ?_) (fun q => ?_)
    · rw [F.dlo hu1, F.dlo j2, d1 u hu1, d1 j j2]; have := hbu j j1 j2; omega
    · rw [F.d0, F.dlo hu1, d1 u hu1, hd]; omega
  have hlk : lastK (doT rs (koutO rs id)) (upAt rs (atN rs id)) = ahAt rs (atN rs id) := by
    have hkl : kidsL (doT rs (koutO rs id)) (upAt rs (atN rs id)) = kidsOf (doT rs (koutO rs id)) u (u + 1) (atN rs id - (u + 1)) := by
      rw [kidsL_yes (by rw [hxu]; omega), hxu, hxen]
    unfold lastK
    rw [hkl]
    have hdx : ∀ j, j < atN rs id → rdep (doT rs (koutO rs id)) j = rdep rs j := fun j hj => by rw [F.dlo hj, d1 j hj]
    rcases ah_spec ht hil hu1 hdu hbu with ⟨q1, q2⟩ | ⟨a, q1, q2, q3, q4, q5⟩
    · rw [q1, show atN rs id - (u + 1) = 0 by omega]; rfl
    · rcases kids_last (doT rs (koutO rs id)) u (atN rs id - (u + 1)) (u + 1) with ⟨_, c2⟩ | ⟨l, c1, c2, c3, c4, _, c6⟩
      · exact absurd (by rw [hdx a q2, hdx u hu1, q3]; omega) (c2 a (by omega) (by omega))
      · have hla : l = a := by
          rcases Nat.lt_trichotomy l a with w1 | w1 | w1
          · exact absurd (by rw [hdx a q2, hdx u hu1, q3]; omega) (c4 a w1 (by omega))
          · exact w1
          · have := q5 l w1 (by omega)
            rw [hdx l (by omega), hdx u hu1] at c3
            omega
        rw [c6, hla, F.lo a q2, r1 a q2, q4]
  refine ⟨hki, ?_⟩
  have e5 : ahAt (doT rs (koutO rs id)) (atN (doT rs (koutO rs id)) id) = upAt rs (atN rs id) := ei.symm
  rw [doT_is hx (kin_ok hki), ek, e5, hlk, doT_is ht hok]
  exact move_back ht hok (by rw [e]; rfl) (by rw [e]; exact hid) rfl (by rw [e]; rfl) (by rw [e]; rfl) (by rw [e]; rfl)
/-- In, a row is put where it stands, one deeper. -/
theorem in_put (h : kinB rs id = true) : thereB (restR rs (atN rs id)) (ahAt rs (atN rs id)) = true ∧ ∃ g, PutOk (restR rs (atN rs id)) (subR rs (atN rs id)) (ahAt rs (atN rs id)) g ∧ doT rs (kinO rs id) = putR (restR rs (atN rs id)) (subR rs (atN rs id)) (ahAt rs (atN rs id)) g ∧
    placeN (restR rs (atN rs id)) (ahAt rs (atN rs id)) g = atN rs id ∧ deepI' (restR rs (atN rs id)) (subR rs (atN rs id)) (ahAt rs (atN rs id)) = 1 ∧ atN (restR rs (atN rs id)) (ahAt rs (atN rs id)) = atN rs (ahAt rs (atN rs id)) ∧ atN rs (ahAt rs (atN rs id)) < atN rs id ∧ enR rs (atN rs (ahAt rs (atN rs id))) = atN rs id := by
  have hok := kin_ok h
  obtain ⟨ht, hm, hid, ha, e, _⟩ := kin_parts h
  obtain ⟨f1, f2, f3, f4, f5⟩ := ahead_facts ht hm hid ha
  have hT := treeP_of ht
  have hR := rest_tree ht hm hid
  have hil := there_iff.1 hid
  have hr : rootB (rat rs (atN rs id)).id = false := by rw [atN_id hil]; exact made_root hm
  obtain ⟨p1, p2, p3⟩ := tree_put ht hil hr
  obtain ⟨hP, ex⟩ := move_to (at' := lastK rs (ahAt rs (atN rs id))) ht hm hid f2
  obtain ⟨u, hu1, eu, hdu, hbu⟩ := up_spec ht hil hr
  obtain ⟨r1, r2⟩ := rest_rat hil
  have hlen := (rest_len hil).1
  have hsl := sub_len hil
  obtain ⟨e1, e2, e3, e4⟩ := en_spec (D := rdep rs) hil
  have e' : enR rs (atN rs id) = en (rdep rs) rs.length (atN rs id) := rfl
  have d1 : ∀ j, j < atN rs id → rdep (restR rs (atN rs id)) j = rdep rs j := fun j hj => by unfold rdep; rw [r1 j hj]
  have dk : atN rs id < (restR rs (atN rs id)).length → rdep (restR rs (atN rs id)) (atN rs id) ≤ rdep rs (atN rs id) := fun q => by
    have q2 : rdep (restR rs (atN rs id)) (atN rs id) = rdep rs (enR rs (atN rs id)) := by unfold rdep; rw [r2 _ (Nat.le_refl _), show atN rs id + (enR rs (atN rs id) - atN rs id) = enR rs (atN rs id) by omega]
    rw [q2]; exact e4 (by omega)
  rcases ah_spec ht hil hu1 hdu hbu with ⟨q1, q2⟩ | ⟨a, q1, q2, q3, q4, q5⟩
  · exact absurd q1 ha
  · have ea : atN rs (ahAt rs (atN rs id)) = a := by rw [q4]; exact hT.at_self (by omega)
    have har : atN (restR rs (atN rs id)) (ahAt rs (atN rs id)) = a := by
      rw [q4]
      exact atN_mk (by omega) (by rw [r1 a q2]) (fun j hj => by rw [r1 j (by omega)]; exact hT.fresh a j hj (by omega))
    have hena : enR rs a = atN rs id := by
      unfold enR
      exact en_uniq (by omega) (by omega) (fun j j1 j2 => by rw [q3]; exact q5 j j1 j2) (fun _ => by rw [q3]; exact Int.le_refl _)
    have hkl : kidsL rs (ahAt rs (atN rs id)) = kidsOf rs a (a + 1) (atN rs id - (a + 1)) := by rw [kidsL_yes (there_iff.1 f5), ea, hena]
    have hplace : placeN (restR rs (atN rs id)) (ahAt rs (atN rs id)) (goA (restR rs (atN rs id)) (moveO id (ahAt rs (atN rs id)) (lastK rs (ahAt rs (atN rs id))))) = atN rs id := by
      rcases kids_last rs a (atN rs id - (a + 1)) (a + 1) with ⟨c1, c2⟩ | ⟨l, c1, c2, c3, c4, _, c6⟩
      · have hL : lastK rs (ahAt rs (atN rs id)) = 0 := by unfold lastK; rw [hkl, c1]; rfl
        have hA : goA (restR rs (atN rs id)) (moveO id (ahAt rs (atN rs id)) (lastK rs (ahAt rs (atN rs id)))) = 0 := by
          unfold goA
          rw [hL]
          split <;> rfl
        rw [hA]
        unfold placeN
        rw [if_neg (by omega), har]
        rcases Nat.lt_or_ge (a + 1) (atN rs id) with w1 | w1
        · exfalso
          have s := hT.rise (a + 1) (by omega) (by omega)
          rw [Nat.add_sub_cancel] at s
          have s' : rdep rs (a + 1) ≤ rdep rs a + 1 := s
          have := q5 (a + 1) (by omega) w1
          exact c2 (a + 1) (by omega) (by omega) (by omega)
        · omega
      · have hL : lastK rs (ahAt rs (atN rs id)) = (rat rs l).id := by unfold lastK; rw [hkl]; exact c6
        have hlk : l < atN rs id := by omega
        have hlr : atN (restR rs (atN rs id)) (rat rs l).id = l := atN_mk (by omega) (by rw [r1 l hlk]) (fun j hj => by rw [r1 j (by omega)]; exact hT.fresh l j hj (by omega))
        have hlt : thereB (restR rs (atN rs id)) (rat rs l).id = true := there_iff.2 (by omega)
        have hena2 : atN rs id ≤ enR (restR rs (atN rs id)) a := by
          obtain ⟨w1, w2, w3, w4⟩ := en_spec (D := rdep (restR rs (atN rs id))) (m := (restR rs (atN rs id)).length) (i := a) (by omega)
          have w' : enR (restR rs (atN rs id)) a = en (rdep (restR rs (atN rs id))) (restR rs (atN rs id)).length a := rfl
          rcases Nat.lt_or_ge (enR (restR rs (atN rs id)) a) (atN rs id) with z | z
          · have z1 := w4 (by omega)
            rw [← w', d1 _ z, d1 a q2] at z1
            have := q5 (enR (restR rs (atN rs id)) a) (by omega) z
            omega
          · exact z
        have hup : upAt (restR rs (atN rs id)) (atN (restR rs (atN rs id)) (rat rs l).id) = ahAt rs (atN rs id) := by
          refine ((kids_up hR f2).1 ?_).2
          rw [kidsL_yes (there_iff.1 f2), kidsOf_iff, har]
          exact ⟨l, by omega, by omega, by rw [d1 l hlk, d1 a q2]; exact c3, by rw [r1 l hlk]⟩
        have hA : goA (restR rs (atN rs id)) (moveO id (ahAt rs (atN rs id)) (lastK rs (ahAt rs (atN rs id)))) = (rat rs l).id := by
          unfold goA
          rw [hL, show (moveO id (ahAt rs (atN rs id)) (rat rs l).id).up = ahAt rs (atN rs id) from rfl, show (moveO id (ahAt rs (atN rs id)) (rat rs l).id).at_ = (rat rs l).id from rfl, f2, hlt, hup]
          simp
        have hid1 := rok_id (hT.rok l (by omega))
        rw [hA]
        unfold placeN
        rw [if_pos (by omega), hlr]
        unfold enR
        refine en_uniq (by omega) (by omega) (fun j j1 j2 => ?_) (fun z => ?_)
        · rw [d1 l hlk, d1 j j2]
          have z1 := q5 j (by omega) j2
          have z2 := c4 j j1 (by omega)
          omega
        · rw [d1 l hlk]
          have := dk z
          omega
    refine ⟨f2, _, hP, by rw [doT_is ht hok, e, ex], hplace, ?_, by rw [har, ea], by rw [ea]; exact q2, by rw [ea]; exact hena⟩
    have hs0 : rdep (subR rs (atN rs id)) 0 = rdep rs (atN rs id) := by unfold rdep; rw [sub_rat (by omega)]; rfl
    unfold deepI'
    rw [har, hs0, d1 a q2]
    omega
theorem in_rows (h : kinB rs id = true) : (doT rs (kinO rs id)).length = rs.length ∧ ∀ i, i < rs.length → (rat (doT rs (kinO rs id)) i).id = (rat rs i).id ∧ (rat (doT rs (kinO rs id)) i).dep = (rat rs i).dep + (if undT rs (rat rs i).id id then 1 else 0) := by
  obtain ⟨ht, hm, hid, ha, e, _⟩ := kin_parts h
  obtain ⟨_, g, hP, ex, hpl, hD, _⟩ := in_put h
  have hil := there_iff.1 hid
  have hT := treeP_of ht
  obtain ⟨e1, e2, _, _⟩ := en_spec (D := rdep rs) hil
  have e' : enR rs (atN rs id) = en (rdep rs) rs.length (atN rs id) := rfl
  have hlen := (rest_len hil).1
  have hsl := sub_len hil
  obtain ⟨r1, r2⟩ := rest_rat hil
  have F := hP.facts
  rw [← ex, hpl, hD] at F
  have hl : (doT rs (kinO rs id)).length = rs.length := by rw [F.len]; exact hlen
  refine ⟨hl, fun i hi => ?_⟩
  have hu : undT rs (rat rs i).id id = (decide (atN rs id ≤ i) && decide (i < enR rs (atN rs id))) := by
    simp only [undT, ht, Bool.true_and, undB, hT.at_self hi, hi, hil, decide_true]
  rw [hu]
  by_cases c1 : i < atN rs id
  · rw [F.lo i c1, r1 i c1]
    simp [show ¬ atN rs id ≤ i by omega]
  · by_cases c2 : i < enR rs (atN rs id)
    · have := F.mid (i - atN rs id) (by omega)
      rw [show atN rs id + (i - atN rs id) = i by omega, sub_rat (by omega), show atN rs id + (i - atN rs id) = i by omega] at this
      rw [this]
      simp [show atN rs id ≤ i by omega, c2, shiftR]
    · have := F.hi (i - (subR rs (atN rs id)).length) (by omega)
      rw [show i - (subR rs (atN rs id)).length + (subR rs (atN rs id)).length = i by omega, r2 _ (by omega), show i - (subR rs (atN rs id)).length + (enR rs (atN rs id) - atN rs id) = i by omega] at this
      rw [this]
      simp [c2]
end
end Go.Proofs.YtclhjgcapalniaaDoor
