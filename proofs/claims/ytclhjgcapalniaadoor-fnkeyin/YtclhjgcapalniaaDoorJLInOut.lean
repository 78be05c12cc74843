/-
  The walk of the law FnInOut out of the contracts. Conditions: the argument reads as bytes; the table 'creators' holds what its initialiser lays.
-/
import Derived.Test.YtclhjgcapalniaaDoorJLDoOk
import Derived.Test.YtclhjgcapalniaaDoorJDrawK
import Derived.Test.YtclhjgcapalniaaDoorJKeyM
import Derived.Deep.RegionHeld3
namespace Go.Proofs.YtclhjgcapalniaaDoor
open Go.ChangeShapes Go.WideShapes Go.ChangeAt Go.RowKit Go.Joins

theorem move_fit {id up at' : Int} (h1 : madeB id = true) (h2 : whoB up = true) (h3 : at' = 0 ∨ madeB at' = true) : OpFit (moveO id up at') := by
  have m : ∀ c, madeB c = true → 0 ≤ c ∧ c ≤ 36 := fun c h => by have := (madeB_iff _).1 h; omega
  have g1 := m _ h1
  have g2 : 0 ≤ up ∧ up ≤ 36 := by
    unfold whoB at h2
    simp only [Bool.or_eq_true] at h2
    rcases h2 with h2 | h2
    · have := (rootB_iff _).1 h2; omega
    · exact m _ h2
  have g3 : 0 ≤ at' ∧ at' ≤ 36 := by
    rcases h3 with h3 | h3
    · omega
    · exact m _ h3
  refine ⟨⟨?_, ?_⟩, ⟨?_, ?_⟩, ⟨?_, ?_⟩, ?_⟩
  · show _ ≤ id; omega
  · show id ≤ _; omega
  · show _ ≤ up; omega
  · show up ≤ _; omega
  · show _ ≤ at'; omega
  · show at' ≤ _; omega
  · show (0 : Nat) ≤ maxLen; omega
theorem kin_fit {rs : List RowD} {id : Int} (h : kinB rs id = true) : OpFit (kinO rs id) := by
  obtain ⟨ht, hm, hid, ha, e, _⟩ := kin_parts h
  obtain ⟨_, _, _, f4, f5⟩ := ahead_facts ht hm hid ha
  rw [e]
  refine move_fit hm (there_who ht f5) ?_
  rcases lastK_cases rs (ahAt rs (atN rs id)) with ⟨_, g⟩ | g
  · exact .inl g
  · exact .inr (kid_made ht f5 g)
theorem kout_fit {rs : List RowD} {id : Int} (h : koutB rs id = true) : OpFit (koutO rs id) := by
  obtain ⟨ht, hm, hid, hu, _, _, e⟩ := kout_parts h
  have h1 := (up_facts ht hm hid).1
  rw [e]
  exact move_fit hm (up_facts ht hu h1).2.2 (.inr hu)
theorem kin_tree {rs : List RowD} {id : Int} (h : kinB rs id = true) : treeB (doT rs (kinO rs id)) = true := by
  rw [doT_is (kin_parts h).1 (kin_ok h)]; exact do_tree (kin_parts h).1 (kin_ok h)
end Go.Proofs.YtclhjgcapalniaaDoor
