/-
  Plain mathematics: a row that was made has nothing under it, and its text. Nothing of the program is run here. Conditions: none beyond the lemmas' own premises.
-/
import Derived.Test.YtclhjgcapalniaaDoorJSameM
namespace Go.Proofs.YtclhjgcapalniaaDoor

theorem place_next {rest : List RowD} {up at' : Int} (h : TreeL rest) (ha : 0 < at' → atN rest at' < rest.length ∧ rdep rest (atN rest at') = rdep rest (atN rest up) + 1) (hP : placeN rest up at' < rest.length) : rdep rest (placeN rest up at') ≤ rdep rest (atN rest up) + 1 := by
  unfold placeN at hP ⊢
  split
  · rename_i g
    rw [if_pos g] at hP
    obtain ⟨a1, a2⟩ := ha g
    obtain ⟨e1, e2, e3, e4⟩ := en_spec (D := rdep rest) a1
    have := e4 hP
    have e' : enR rest (atN rest at') = en (rdep rest) rest.length (atN rest at') := rfl
    rw [e']; omega
  · rename_i g
    rw [if_neg g] at hP
    have := rise_at h.rise (atN rest up + 1) hP
    rw [if_neg (by omega), Nat.add_sub_cancel] at this
    exact this
theorem rat_put {l : List RowD} {P : Nat} (hP : P ≤ l.length) (r : RowD) : (∀ j, j < P → rat (l.take P ++ [r] ++ l.drop P) j = rat l j) ∧ rat (l.take P ++ [r] ++ l.drop P) P = r ∧ rat (l.take P ++ [r] ++ l.drop P) (P + 1) = rat l P := by
  have hl : (l.take P).length = P := by rw [List.length_take]; omega
  refine ⟨fun j hj => ?_, ?_, ?_⟩
  · unfold rat
    rw [List.getD_eq_getElem?_getD, List.getD_eq_getElem?_getD, List.append_assoc, List.getElem?_append_left (by omega), List.getElem?_take_of_lt hj]
  · unfold rat
    rw [List.getD_eq_getElem?_getD, List.append_assoc, List.getElem?_append_right (by omega), hl, Nat.sub_self]
    rfl
  · unfold rat
    rw [List.getD_eq_getElem?_getD, List.getD_eq_getElem?_getD, List.append_assoc, List.getElem?_append_right (by omega), hl, show P + 1 - P = 1 by omega, List.singleton_append, List.getElem?_cons_succ, List.getElem?_drop, Nat.add_zero]
/-- A row that was made: its place, its text, nothing under it. -/
theorem make_leaf {rs : List RowD} {o : OpD} (ht : treeB rs = true) (hk : o.kind = 1) (hn : ¬ atN rs o.id < rs.length) : (rat (doR rs o) (atN (doR rs o) o.id)).txt = o.txt ∧ kidsL (doR rs o) o.id = [] := by
  have h : noWhereB rs o = false := by rw [noWhere1 hk]; simp [thereB, hn]
  have hL := treeL_of ht
  have hu := whereU_there h (tree_three ht)
  have ha : 0 < whereA rs o → atN rs (whereA rs o) < rs.length ∧ rdep rs (atN rs (whereA rs o)) = rdep rs (atN rs (whereU rs o)) + 1 := by
    intro g
    refine ⟨whereA_there g, ?_⟩
    obtain ⟨g1, g2, g3, g4, g5⟩ := whereA_up ht h g
    have hl := there_iff.1 g1
    have := par_dep (treeP_of ht).deps (show 1 ≤ atN rs (whereA rs o) + 1 by omega) (by omega)
    rw [g2] at this
    show dp rs (atN rs (whereA rs o) + 1) = dp rs (atN rs (whereU rs o) + 1) + 1
    omega
  have hlen := (do_made hk hn).1
  obtain ⟨p1, p2⟩ := placeN_bd hu (fun g => (ha g).1)
  have hnx := place_next hL ha
  have hx : doR rs o = rs.take (placeN rs (whereU rs o) (whereA rs o)) ++ [⟨o.id, 0 + deepI' rs [⟨o.id, 0, o.txt⟩] (whereU rs o), o.txt⟩] ++ rs.drop (placeN rs (whereU rs o) (whereA rs o)) := by
    rw [doR_put hk h]; rfl
  have hD : (0 : Int) + deepI' rs [⟨o.id, 0, o.txt⟩] (whereU rs o) = rdep rs (atN rs (whereU rs o)) + 1 := by
    simp [deepI', rdep, rat]
  rw [hD] at hx
  generalize placeN rs (whereU rs o) (whereA rs o) = P at *
  obtain ⟨r1, r2, r3⟩ := rat_put p2 (⟨o.id, rdep rs (atN rs (whereU rs o)) + 1, o.txt⟩ : RowD)
  rw [← hx] at r1 r2 r3
  have hat : atN (doR rs o) o.id = P := atN_mk (by omega) (by rw [r2]) (fun j hj => by
    rw [r1 j hj]
    intro e
    have := mem_there (rat_in (show j < rs.length by omega))
    rw [e] at this
    exact hn this)
  rw [hat]
  refine ⟨by rw [r2], ?_⟩
  unfold kidsL
  rw [hat, if_pos (by omega)]
  have he : enR (doR rs o) P = P + 1 := by
    unfold enR
    refine en_uniq (Nat.le_refl _) (by omega) (fun j a b => by omega) (fun a => ?_)
    unfold rdep
    rw [r3, r2]
    exact hnx (by omega)
  unfold kidsAt
  rw [he, Nat.sub_self]
  rfl
end Go.Proofs.YtclhjgcapalniaaDoor
