/-
  Plain mathematics: the numbers of an outline that was changed. Nothing of the program is run here. Conditions: none beyond the lemmas' own premises.
-/
import Derived.Test.YtclhjgcapalniaaDoorGG
import Derived.Test.YtclhjgcapalniaaDoorGD
namespace Go.Proofs.YtclhjgcapalniaaDoor

theorem put_length (rest rows : List RowD) (up at' : Int) : (putR rest rows up at').length = rest.length + rows.length := by
  unfold putR
  have h := congrArg List.length (List.take_append_drop (placeN rest up at') rest)
  simp only [List.length_append, List.length_map] at h ⊢
  omega
theorem put_mem {rest rows : List RowD} {up at' : Int} {r : RowD} : r ∈ putR rest rows up at' → r ∈ rest ∨ ∃ s ∈ rows, s.id = r.id := by
  unfold putR
  intro h
  rcases List.mem_append.1 h with h | h
  · rcases List.mem_append.1 h with h | h
    · exact .inl (List.mem_of_mem_take h)
    · obtain ⟨s, hs, e⟩ := List.mem_map.1 h
      exact .inr ⟨s, hs, by rw [← e]; rfl⟩
  · exact .inl (List.mem_of_mem_drop h)
/-- A row was made: one more, and it stands there. -/
theorem do_made {rs : List RowD} {o : OpD} (hk : o.kind = 1) (hn : ¬ atN rs o.id < rs.length) : (doR rs o).length = rs.length + 1 ∧ atN (doR rs o) o.id < (doR rs o).length := by
  have h : noWhereB rs o = false := by rw [noWhere1 hk]; simp [thereB, hn]
  rw [doR_put hk h]
  refine ⟨put_length _ _ _ _, ?_⟩
  have hm : (⟨o.id, 0 + deepI' rs [⟨o.id, 0, o.txt⟩] (whereU rs o), o.txt⟩ : RowD) ∈ putR rs [⟨o.id, 0, o.txt⟩] (whereU rs o) (whereA rs o) := by
    unfold putR
    refine List.mem_append_left _ (List.mem_append_right _ ?_)
    simp [shiftR]
  exact mem_there hm
/-- No row was made: the numbers are the same. -/
theorem do_same {rs : List RowD} {o : OpD} (hok : opokB o = true) (h : o.kind = 1 → atN rs o.id < rs.length) : (doR rs o).length = rs.length ∧ ∀ r ∈ doR rs o, atN rs r.id < rs.length := by
  rcases opok_kind hok with k | k | k
  · have hn : noWhereB rs o = true := by rw [noWhere1 k]; exact there_iff.2 (h k)
    rw [doR_no k hn]
    exact ⟨rfl, fun r hr => mem_there hr⟩
  · have e : doR rs o = if thereB rs o.id then setTxt rs (atN rs o.id) o.txt else rs := by simp [doR, k]
    rw [e]
    split
    · refine ⟨by simp [setTxt], fun r hr => ?_⟩
      have hi : (setTxt rs (atN rs o.id) o.txt).map (·.id) = rs.map (·.id) := by
        unfold setTxt
        apply List.ext_getElem
        · simp
        · intro i h1 h2
          simp only [List.getElem_map, List.getElem_modify]
          split <;> rfl
      have : r.id ∈ rs.map (·.id) := by rw [← hi]; exact List.mem_map_of_mem hr
      obtain ⟨s, hs, e⟩ := List.mem_map.1 this
      have e' : s.id = r.id := e
      rw [← e']; exact mem_there hs
    · exact ⟨rfl, fun r hr => mem_there hr⟩
  · cases hn : noWhereB rs o
    · rw [doR_move k hn]
      have ht : atN rs o.id < rs.length := by
        have : thereB rs o.id = true := by
          cases g : thereB rs o.id
          · simp [noWhereB, k, g] at hn
          · rfl
        exact there_iff.1 this
      refine ⟨by rw [put_length]; exact (rest_len ht).1, fun r hr => ?_⟩
      rcases put_mem hr with h | ⟨s, hs, e⟩
      · exact mem_there (mem_rest h)
      · rw [← e]
        obtain ⟨i, _, i2, e2, _⟩ := sub_mem ht hs
        have he : enR rs (atN rs o.id) ≤ rs.length := (en_spec (D := rdep rs) ht).2.1
        rw [e2]; exact mem_there (rat_in (show i < rs.length by omega))
    · have e : doR rs o = rs := by simp [doR, k, hn]
      rw [e]
      exact ⟨rfl, fun r hr => mem_there hr⟩
end Go.Proofs.YtclhjgcapalniaaDoor
