/-
  Plain mathematics of the editing commands: in, out, and back again. Nothing of the program is run here. Conditions: none beyond the lemmas' own premises.
-/
import Derived.Test.YtclhjgcapalniaaDoorJGoM
import Derived.Test.YtclhjgcapalniaaDoorJKeyI5
namespace Go.Proofs.YtclhjgcapalniaaDoor

theorem doT_is {rs : List RowD} {o : OpD} (h1 : treeB rs = true) (h2 : opokB o = true) : doT rs o = doR rs o := by simp [doT, h1, h2]
theorem opok_move {id up at' : Int} (h1 : madeB id = true) (h2 : whoB up = true) (h3 : at' = 0 ∨ madeB at' = true) : opokB (moveO id up at') = true := by
  unfold opokB
  rw [if_neg (show ¬ (moveO id up at').kind = 1 by show ¬ (3 : Int) = 1; decide), if_neg (show ¬ (moveO id up at').kind = 2 by show ¬ (3 : Int) = 2; decide), if_pos (show (moveO id up at').kind = 3 from rfl)]
  show ((((⟨#[]⟩ : ByteArray).toList == []) && madeB id) && spotB up at') = true
  have e : ((⟨#[]⟩ : ByteArray).toList == []) = true := by decide +kernel
  have hs : spotB up at' = true := by
    unfold spotB
    rw [h2]
    rcases h3 with h3 | h3
    · rw [h3]; rfl
    · rw [h3]; simp
  rw [e, h1, hs]; rfl
theorem row_who {rs : List RowD} (ht : treeB rs = true) {i : Nat} (hi : i < rs.length) : whoB (rat rs i).id = true := by
  unfold whoB
  rcases rok_cases ((treeP_of ht).rok i hi) with ⟨g, _⟩ | ⟨_, g, _⟩
  · rw [g]; rfl
  · rw [g]; simp
theorem row_made {rs : List RowD} (ht : treeB rs = true) {i : Nat} (hi : i < rs.length) (hd : 1 ≤ rdep rs i) : madeB (rat rs i).id = true := by
  rcases rok_cases ((treeP_of ht).rok i hi) with ⟨_, g, _⟩ | ⟨_, g, _⟩
  · have : rdep rs i = 0 := g
    omega
  · exact g
theorem there_who {rs : List RowD} (ht : treeB rs = true) {c : Int} (h : thereB rs c = true) : whoB c = true := by
  have hl := there_iff.1 h
  have := row_who ht hl
  rw [atN_id hl] at this; exact this
/-- A row with one above it was made by somebody. -/
theorem kid_made {rs : List RowD} (ht : treeB rs = true) {up c : Int} (hu : thereB rs up = true) (h : c ∈ kidsL rs up) : madeB c = true := by
  obtain ⟨h1, h2⟩ := (kids_up ht hu).1 h
  obtain ⟨_, _, h3⟩ := kid_place ht hu h1 h2
  have hl := there_iff.1 h1
  have hul := there_iff.1 hu
  have := (rok_dep ((treeP_of ht).rok _ hul)).1
  have := row_made ht hl (by show 1 ≤ rdep rs (atN rs c); rw [h3]; show 1 ≤ (rat rs (atN rs up)).dep + 1; omega)
  rw [atN_id hl] at this; exact this
theorem lastK_cases (rs : List RowD) (u : Int) : (kidsL rs u = [] ∧ lastK rs u = 0) ∨ lastK rs u ∈ kidsL rs u := by
  unfold lastK
  cases h : kidsL rs u with
  | nil => exact .inl ⟨rfl, rfl⟩
  | cons x l =>
    right
    have hlt : (x :: l).length - 1 < (x :: l).length := by simp
    rw [List.getD_eq_getElem?_getD, List.getElem?_eq_getElem hlt]
    exact List.getElem_mem hlt
section
variable {rs : List RowD} {id : Int}
theorem up_facts (ht : treeB rs = true) (hm : madeB id = true) (hid : thereB rs id = true) : thereB rs (upAt rs (atN rs id)) = true ∧ thereB (restR rs (atN rs id)) (upAt rs (atN rs id)) = true ∧ whoB (upAt rs (atN rs id)) = true := by
  have hil := there_iff.1 hid
  have hr : rootB (rat rs (atN rs id)).id = false := by rw [atN_id hil]; exact made_root hm
  obtain ⟨p1, _, _⟩ := tree_put ht hil hr
  obtain ⟨u, D, F⟩ := tree_putF ht hil hr
  have h2 := there_iff.2 p1.hu
  have h1 := F.there.2 (.inl h2)
  exact ⟨h1, h2, there_who ht h1⟩
theorem ahead_facts (ht : treeB rs = true) (hm : madeB id = true) (hid : thereB rs id = true) (ha : ahAt rs (atN rs id) ≠ 0) :
    0 < ahAt rs (atN rs id) ∧ thereB (restR rs (atN rs id)) (ahAt rs (atN rs id)) = true ∧ upAt (restR rs (atN rs id)) (atN (restR rs (atN rs id)) (ahAt rs (atN rs id))) = upAt rs (atN rs id) ∧ madeB (ahAt rs (atN rs id)) = true ∧ thereB rs (ahAt rs (atN rs id)) = true := by
  have hil := there_iff.1 hid
  have hr : rootB (rat rs (atN rs id)).id = false := by rw [atN_id hil]; exact made_root hm
  obtain ⟨p1, _, _⟩ := tree_put ht hil hr
  obtain ⟨u, D, F⟩ := tree_putF ht hil hr
  have hR := rest_tree ht hm hid
  have g : 0 < ahAt rs (atN rs id) := by have := p1.a0; omega
  obtain ⟨a1, a2, a3⟩ := p1.ha g
  have hen := (en_spec (D := rdep (restR rs (atN rs id))) p1.hu).2.1
  have e' : enR (restR rs (atN rs id)) (atN (restR rs (atN rs id)) (upAt rs (atN rs id))) = en (rdep (restR rs (atN rs id))) (restR rs (atN rs id)).length (atN (restR rs (atN rs id)) (upAt rs (atN rs id))) := rfl
  have hal : atN (restR rs (atN rs id)) (ahAt rs (atN rs id)) < (restR rs (atN rs id)).length := by omega
  have hk : ahAt rs (atN rs id) ∈ kidsL (restR rs (atN rs id)) (upAt rs (atN rs id)) := by
    rw [kidsL_yes p1.hu, kidsOf_iff]
    exact ⟨_, by omega, by omega, a3, atN_id hal⟩
  refine ⟨g, there_iff.2 hal, ((kids_up hR (there_iff.2 p1.hu)).1 hk).2, kid_made hR (there_iff.2 p1.hu) hk, F.there.2 (.inl (there_iff.2 hal))⟩
theorem rest_not (ht : treeB rs = true) (hid : thereB rs id = true) {o : OpD} (h : thereB (restR rs (atN rs id)) o.up = true) : goNo (subR rs (atN rs id)) o = false := by
  rw [Bool.eq_false_iff]
  intro g
  obtain ⟨j, hj, q⟩ := goNo_iff.1 g
  have hl := there_iff.1 h
  have := (sub_ok ht (there_iff.1 hid)).dj _ (rat_in hj) _ (rat_in hl)
  rw [q, atN_id hl] at this
  exact this rfl
/-- A row is moved under one that does not stand under it. -/
theorem move_to (ht : treeB rs = true) (hm : madeB id = true) (hid : thereB rs id = true) {up at' : Int} (h : thereB (restR rs (atN rs id)) up = true) :
    PutOk (restR rs (atN rs id)) (subR rs (atN rs id)) up (goA (restR rs (atN rs id)) (moveO id up at')) ∧ doR rs (moveO id up at') = putR (restR rs (atN rs id)) (subR rs (atN rs id)) up (goA (restR rs (atN rs id)) (moveO id up at')) := by
  have e := do_move (o := moveO id up at') ht rfl hm hid
  have hg := rest_not ht hid (o := moveO id up at') h
  have hu : goU (restR rs (atN rs id)) (moveO id up at') = up := by
    unfold goU
    rw [show (moveO id up at').up = up from rfl, h, if_pos rfl]
  have hP := go_put (moveO id up at') (rest_tree ht hm hid) (sub_ok ht (there_iff.1 hid))
  rw [hu] at hP
  refine ⟨hP, ?_⟩
  rw [e]
  show (if goNo (subR rs (atN rs id)) (moveO id up at') then rs else _) = _
  rw [hg]
  simp only [Bool.false_eq_true, if_false]
  rw [show (moveO id up at').id = id from rfl, hu]
theorem kin_parts (h : kinB rs id = true) : treeB rs = true ∧ madeB id = true ∧ thereB rs id = true ∧ ahAt rs (atN rs id) ≠ 0 ∧ kinO rs id = moveO id (ahAt rs (atN rs id)) (lastK rs (ahAt rs (atN rs id))) ∧ ahI rs id = ahAt rs (atN rs id) := by
  have h' := h
  unfold kinB at h
  simp only [Bool.and_eq_true, bne_iff_ne, ne_eq] at h
  obtain ⟨hb, h0⟩ := h
  have hI : ahI rs id = ahAt rs (atN rs id) := by simp [ahI, hb]
  unfold ahB at hb
  simp only [Bool.and_eq_true, Bool.not_eq_true'] at hb
  obtain ⟨h1, h2⟩ := hasB_iff.1 hb.1
  have hm : madeB id = true := by
    have := rootB_made hb.1
    rw [hb.2] at this
    cases g : madeB id
    · rw [g] at this; cases this
    · rfl
  refine ⟨h1, hm, there_iff.2 h2, by rw [← hI]; exact h0, ?_, hI⟩
  unfold kinO
  rw [h', if_pos rfl, hI]
theorem kin_ok (h : kinB rs id = true) : opokB (kinO rs id) = true := by
  obtain ⟨ht, hm, hid, ha, e, _⟩ := kin_parts h
  obtain ⟨_, _, _, f4, f5⟩ := ahead_facts ht hm hid ha
  rw [e]
  refine opok_move hm (there_who ht f5) ?_
  rcases lastK_cases rs (ahAt rs (atN rs id)) with ⟨_, g⟩ | g
  · exact .inl g
  · exact .inr (kid_made ht f5 g)
theorem kout_parts (h : koutB rs id = true) : treeB rs = true ∧ madeB id = true ∧ thereB rs id = true ∧ madeB (upAt rs (atN rs id)) = true ∧ upI rs id = upAt rs (atN rs id) ∧ upI rs (upAt rs (atN rs id)) = upAt rs (atN rs (upAt rs (atN rs id))) ∧ koutO rs id = moveO id (upAt rs (atN rs (upAt rs (atN rs id)))) (upAt rs (atN rs id)) := by
  have h' := h
  unfold koutB at h
  simp only [Bool.and_eq_true] at h
  obtain ⟨⟨hh, hm⟩, hu⟩ := h
  obtain ⟨h1, h2⟩ := hasB_iff.1 hh
  have hI : upI rs id = upAt rs (atN rs id) := by simp [upI, hh]
  rw [hI] at hu
  have hth := (up_facts h1 hm (there_iff.2 h2)).1
  have hI2 : upI rs (upAt rs (atN rs id)) = upAt rs (atN rs (upAt rs (atN rs id))) := by
    have : hasB rs (upAt rs (atN rs id)) = true := hasB_iff.2 ⟨h1, there_iff.1 hth⟩
    simp [upI, this]
  refine ⟨h1, hm, there_iff.2 h2, hu, hI, hI2, ?_⟩
  unfold koutO
  rw [h', if_pos rfl, hI, hI2]
theorem kout_ok (h : koutB rs id = true) : opokB (koutO rs id) = true := by
  obtain ⟨ht, hm, hid, hu, _, _, e⟩ := kout_parts h
  have h1 := (up_facts ht hm hid).1
  rw [e]
  exact opok_move hm (up_facts ht hu h1).2.2 (.inr hu)
/-- In, and out, a row is where it was. -/
theorem in_out (h : kinB rs id = true) : koutB (doT rs (kinO rs id)) id = true ∧ doT (doT rs (kinO rs id)) (koutO (doT rs (kinO rs id)) id) = rs := by
  have hok := kin_ok h
  obtain ⟨ht, hm, hid, ha, e, _⟩ := kin_parts h
  obtain ⟨f1, f2, f3, f4, f5⟩ := ahead_facts ht hm hid ha
  rw [doT_is ht hok]
  rw [e] at hok ⊢
  have hx := do_tree ht hok
  obtain ⟨hP, ex⟩ := move_to (at' := lastK rs (ahAt rs (atN rs id))) ht hm hid f2
  have hat : atN (doR rs (moveO id (ahAt rs (atN rs id)) (lastK rs (ahAt rs (atN rs id))))) id = placeN (restR rs (atN rs id)) (ahAt rs (atN rs id)) (goA (restR rs (atN rs id)) (moveO id (ahAt rs (atN rs id)) (lastK rs (ahAt rs (atN rs id))))) := by rw [ex]; exact hP.at_head (sub_head hid)
  have hth : thereB (doR rs (moveO id (ahAt rs (atN rs id)) (lastK rs (ahAt rs (atN rs id))))) id = true := by rw [ex]; exact hP.facts.there.2 (.inr ⟨0, hP.h0, sub_head hid⟩)
  have hup : upAt (doR rs (moveO id (ahAt rs (atN rs id)) (lastK rs (ahAt rs (atN rs id))))) (atN (doR rs (moveO id (ahAt rs (atN rs id)) (lastK rs (ahAt rs (atN rs id))))) id) = ahAt rs (atN rs id) := by rw [hat, ex]; exact hP.upH
  have hup2 : upAt (doR rs (moveO id (ahAt rs (atN rs id)) (lastK rs (ahAt rs (atN rs id))))) (atN (doR rs (moveO id (ahAt rs (atN rs id)) (lastK rs (ahAt rs (atN rs id))))) (ahAt rs (atN rs id))) = upAt rs (atN rs id) := by rw [ex, hP.facts.up_at f2, f3]
  have hb := move_back (b := moveO id (upAt rs (atN rs id)) (ahAt rs (atN rs id))) ht hok rfl hid rfl rfl rfl rfl
  generalize doR rs (moveO id (ahAt rs (atN rs id)) (lastK rs (ahAt rs (atN rs id)))) = x at *
  have hI : upI x id = upAt x (atN x id) := by
    have : hasB x id = true := hasB_iff.2 ⟨hx, there_iff.1 hth⟩
    simp [upI, this]
  have hko : koutB x id = true := by
    unfold koutB
    rw [hI, hup, f4, hm, hasB_iff.2 ⟨hx, there_iff.1 hth⟩]; rfl
  obtain ⟨_, _, _, _, _, _, g⟩ := kout_parts hko
  refine ⟨hko, ?_⟩
  rw [g, hup, hup2, doT_is hx (opok_move hm (up_facts ht hm hid).2.2 (.inr f4))]
  exact hb
end
end Go.Proofs.YtclhjgcapalniaaDoor
