/-
  Plain mathematics: no entry loses a row, and what an entry makes is there. Nothing of the program is run here. Conditions: none beyond the lemmas' own premises.
-/
import Derived.Test.YtogafpfgdonlmaaDoorGG
import Derived.Test.YtogafpfgdonlmaaDoorJSameM
namespace Go.Proofs.YtogafpfgdonlmaaDoor
open Go.RowKit

theorem there_mem {rs : List RowD} {id : Int} : thereB rs id = true ↔ ∃ r ∈ rs, r.id = id := by
  constructor
  · intro h
    have hl := there_iff.1 h
    exact ⟨rat rs (atN rs id), rat_in hl, atN_id hl⟩
  · rintro ⟨r, hr, rfl⟩
    exact there_iff.2 (mem_there hr)
theorem keep_put {rest rows : List RowD} {up at' id : Int} (h : (∃ r ∈ rest, r.id = id) ∨ (∃ r ∈ rows, r.id = id)) : ∃ r ∈ putR rest rows up at', r.id = id := by
  unfold putR
  rcases h with ⟨r, hr, e⟩ | ⟨r, hr, e⟩
  · refine ⟨r, ?_, e⟩
    rw [← List.take_append_drop (placeN rest up at') rest, List.mem_append] at hr
    simp only [List.mem_append]
    rcases hr with hr | hr
    · exact .inl (.inl hr)
    · exact .inr hr
  · refine ⟨shiftR (deepI' rest rows up) r, ?_, e⟩
    simp only [List.mem_append]
    exact .inl (.inr (List.mem_map.2 ⟨r, hr, rfl⟩))
theorem do_keep {rs : List RowD} {o : OpD} {id : Int} (hok : opokB o = true) (h : thereB rs id = true) : thereB (doR rs o) id = true := by
  rw [there_mem] at h ⊢
  rcases opok_kind hok with hk | hk | hk
  · cases hn : noWhereB rs o
    · rw [doR_put hk hn]; exact keep_put (.inl h)
    · rw [doR_no hk hn]; exact h
  · unfold doR
    rw [if_pos hk]
    split
    · obtain ⟨r, hr, e⟩ := h
      have hm : id ∈ rs.map (·.id) := List.mem_map.2 ⟨r, hr, e⟩
      rw [← setTxt_map (t := o.txt) (fun r : RowD => r.id) (fun _ => rfl) rs (atN rs o.id)] at hm
      obtain ⟨s, hs, e2⟩ := List.mem_map.1 hm
      exact ⟨s, hs, e2⟩
    · exact h
  · cases hn : noWhereB rs o
    · rw [doR_move hk hn]
      have hno := noWhere3 (rs := rs) hk
      rw [hn] at hno
      have hid : thereB rs o.id = true := by cases h : thereB rs o.id <;> simp [h] at hno ⊢
      obtain ⟨r, hr, e⟩ := h
      rw [parts (there_iff.1 hid), List.mem_append, List.mem_append] at hr
      refine keep_put ?_
      rcases hr with hr | hr | hr
      · exact .inl ⟨r, List.mem_append.2 (.inl hr), e⟩
      · exact .inr ⟨r, hr, e⟩
      · exact .inl ⟨r, List.mem_append.2 (.inr hr), e⟩
    · unfold doR; rw [if_neg (by omega), hn]; exact h
theorem do_there1 {rs : List RowD} {o : OpD} (hk : o.kind = 1) (hok : opokB o = true) : thereB (doR rs o) o.id = true := by
  cases h : thereB rs o.id
  · exact there_iff.2 (do_made hk (fun q => by rw [there_iff.2 q] at h; cases h)).2
  · exact do_keep hok h
theorem keep_from {t0 : List RowD} {es : List EntD} {id : Int} {k : Nat} (h : thereB (treeFrom t0 es k) id = true) : ∀ {n : Nat}, k ≤ n → (∀ i, i < n → opokB (eat es i).op = true) → thereB (treeFrom t0 es n) id = true
  | 0, hn, _ => by obtain rfl : k = 0 := by omega
                   exact h
  | n + 1, hn, ho => by
    by_cases e : k = n + 1
    · subst e; exact h
    · exact do_keep (ho n (by omega)) (keep_from h (by omega) (fun i hi => ho i (by omega)))
/-- What an entry makes is there. -/
theorem made_log {es : List EntD} (h : logB es = true) {i : Nat} (hi : i < es.length) (hk : (eat es i).op.kind = 1) : thereB (ltree es) (eat es i).op.id = true := by
  have ho := log_ops (logB_to h).1
  rw [(ltree_ok h).1]
  exact keep_from (k := i + 1) (do_there1 hk (ho i hi)) hi ho
/-- No entry loses a row. -/
theorem cut_keep {es : List EntD} (h : logB es = true) {k : Nat} (hk : k ≤ es.length) {j : Nat} (hj : j < (ltree (es.take k)).length) : thereB (ltree es) (rat (ltree (es.take k)) j).id = true := by
  have h2 := logB_take h hk
  have hl : (es.take k).length = k := by simp; omega
  have e1 : ltree (es.take k) = treeFrom r3 es k := by
    rw [(ltree_ok h2).1]
    unfold treeTo
    rw [hl]
    exact treeFrom_congr (fun i hi => eat_take hi)
  rw [(ltree_ok h).1]
  rw [e1] at hj ⊢
  exact keep_from (there_iff.2 (there_at hj)) hk (log_ops (logB_to h).1)
theorem atI_there {rs : List RowD} {id : Int} (h : thereB rs id = true) : 0 ≤ atI rs id := by
  rw [atI_pos (there_iff.1 h)]; omega
end Go.Proofs.YtogafpfgdonlmaaDoor
