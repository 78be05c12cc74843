/-
  Plain mathematics of undoing: what is undone is as it was, and undone twice it is done. Nothing of the program is run here. Conditions: none beyond the lemmas' own premises.
-/
import Derived.Test.YtklefdhjfadhpaaDoorJKBackM
import Derived.Test.YtklefdhjfadhpaaDoorJTextM
import Derived.Test.YtklefdhjfadhpaaDoorJKeyM
namespace Go.Proofs.YtklefdhjfadhpaaDoor
open Go.RowKit

theorem kb_fit {id up at' : Int} (h1 : madeB id = true) (h2 : whoB up = true) (h3 : at' = 0 ∨ madeB at' = true) : OpFit (moveO id up at') := by
  have m : ∀ c, madeB c = true → 0 ≤ c ∧ c ≤ 36 := fun c h => by have := (madeB_iff _).1 h; omega
  have g1 := m _ h1
  have g2 : 0 ≤ up ∧ up ≤ 36 := by
    unfold whoB at h2
    simp only [Bool.or_eq_true] at h2
    rcases h2 with h2 | h2
    · have := (rootB_iff _).1 h2; omega
    · exact m _ h2
  have g3 : 0 ≤ at' ∧ at' ≤ 36 := by
    rcases h3 with h3 | h3
    · omega
    · exact m _ h3
  refine ⟨⟨?_, ?_⟩, ⟨?_, ?_⟩, ⟨?_, ?_⟩, ?_⟩
  · show _ ≤ id; omega
  · show id ≤ _; omega
  · show _ ≤ up; omega
  · show up ≤ _; omega
  · show _ ≤ at'; omega
  · show at' ≤ _; omega
  · show (0 : Nat) ≤ maxLen; omega
theorem setTxt_back {rs : List RowD} {k : Nat} (t : ByteArray) (hk : k < rs.length) : setTxt (setTxt rs k t) k (rat rs k).txt = rs := by
  have hr : rat rs k = rs[k] := by simp [rat, hk]
  apply List.ext_getElem (by simp [setTxt])
  intro i h1 h2
  simp only [setTxt, List.getElem_modify, hr]
  split
  · rename_i e; subst e; rfl
  · rfl
theorem setTxt_at (rs : List RowD) (k : Nat) (t : ByteArray) (id : Int) : atN (setTxt rs k t) id = atN rs id := by
  have hl : (setTxt rs k t).length = rs.length := by simp [setTxt]
  have hi : ∀ i, (rat (setTxt rs k t) i).id = (rat rs i).id := fun i => by
    unfold rat setTxt
    rw [List.getD_eq_getElem?_getD, List.getD_eq_getElem?_getD, List.getElem?_modify]
    cases rs[i]? with
    | none => simp
    | some r => by_cases e : k = i <;> simp [e]
  unfold atN
  rw [hl]
  have : (fun i => (rat (setTxt rs k t) i).id == id) = (fun i => (rat rs i).id == id) := by funext i; rw [hi]
  rw [this]
theorem kback_undo {rs : List RowD} {o : OpD} (h : kbackB rs o = true) (hk1 : o.kind ≠ 1) : opokB (kbackO rs o) = true ∧ OpFit (kbackO rs o) ∧ doT (doT rs o) (kbackO rs o) = rs ∧ treeB (doT rs o) = true ∧ doT rs o ≠ rs ∧ (kbackO rs o).kind ≠ 1 := by
  obtain ⟨ht, hok, hne⟩ := kback_iff.1 h
  have hx := do_tree ht hok
  have hm := opok_made hok
  rw [doT_is ht hok, kback_is h]
  rcases opok_kind hok with hk | hk | hk
  · exact absurd hk hk1
  · have hid := word_there hk hne
    have hat : atN rs o.id < rs.length := by simpa [thereB] using hid
    have e : kbackP rs o = ⟨2, o.id, 0, 0, (rat rs (atN rs o.id)).txt⟩ := by simp [kbackP, hk]
    have hrk := (treeP_of ht).rok _ hat
    have hii : (rat rs (atN rs o.id)).id = o.id := atN_id hat
    have htx : textB (rat rs (atN rs o.id)).txt = true := by
      rcases rok_cases hrk with ⟨h1, _⟩ | ⟨_, _, _, _, h5⟩
      · rw [hii, made_root hm] at h1; cases h1
      · exact h5
    have hob : opokB ⟨2, o.id, 0, 0, (rat rs (atN rs o.id)).txt⟩ = true := by unfold opokB; simp [hm, htx]
    rw [e, doT_is hx hob]
    refine ⟨hob, ?_, ?_, hx, hne, by show (2 : Int) ≠ 1; decide⟩
    · have hs := (lineOk_of hrk).t0
      have h9 := (madeB_iff _).1 hm
      exact ⟨⟨by show _ ≤ o.id; omega, by show o.id ≤ _; omega⟩, ⟨by show _ ≤ (0 : Int); decide, by show (0 : Int) ≤ _; decide⟩, ⟨by show _ ≤ (0 : Int); decide, by show (0 : Int) ≤ _; decide⟩, by show (rat rs (atN rs o.id)).txt.size ≤ maxLen; unfold maxLen; omega⟩
    · have e1 : doR rs o = setTxt rs (atN rs o.id) o.txt := by simp [doR, hk, hid]
      have e3 : thereB (doR rs o) o.id = true := by rw [e1]; unfold thereB; rw [setTxt_at]; simpa [setTxt] using hat
      have e2 : doR (doR rs o) ⟨2, o.id, 0, 0, (rat rs (atN rs o.id)).txt⟩ = setTxt (doR rs o) (atN (doR rs o) o.id) (rat rs (atN rs o.id)).txt := by
        have : ∀ (x : List RowD) (q : OpD), q.kind = 2 → thereB x q.id = true → doR x q = setTxt x (atN x q.id) q.txt := fun x q h1 h2 => by simp [doR, h1, h2]
        exact this _ _ rfl e3
      rw [e2, e1, setTxt_at, setTxt_back _ hat]
  · have hid := move_there hk hne
    have e : kbackP rs o = moveO o.id (upAt rs (atN rs o.id)) (ahAt rs (atN rs o.id)) := by simp [kbackP, hk]
    have hw := (up_facts ht hm hid).2.2
    have ha : ahAt rs (atN rs o.id) = 0 ∨ madeB (ahAt rs (atN rs o.id)) = true := by
      by_cases q : ahAt rs (atN rs o.id) = 0
      · exact .inl q
      · exact .inr (ahead_facts ht hm hid q).2.2.2.1
    rw [e, doT_is hx (opok_move hm hw ha)]
    exact ⟨opok_move hm hw ha, kb_fit hm hw ha, move_back ht hok hk hid rfl rfl rfl rfl, hx, hne, by show (3 : Int) ≠ 1; decide⟩
theorem kback_twice {rs : List RowD} {o : OpD} (h : kbackB rs o = true) (hk1 : o.kind ≠ 1) : kbackB (doT rs o) (kbackO rs o) = true ∧ doT rs (kbackO (doT rs o) (kbackO rs o)) = doT rs o ∧ OpFit (kbackO (doT rs o) (kbackO rs o)) := by
  obtain ⟨h1, h2, h3, h4, h5, h6⟩ := kback_undo h hk1
  have hb : kbackB (doT rs o) (kbackO rs o) = true := kback_iff.2 ⟨h4, h1, fun g => h5 (by rw [doT_is h4 h1] at h3; exact g.symm.trans h3)⟩
  obtain ⟨g1, g2, g3, g4, g5, g6⟩ := kback_undo hb h6
  rw [h3] at g3
  exact ⟨hb, g3, g2⟩
end Go.Proofs.YtklefdhjfadhpaaDoor
