/-
  Plain mathematics of clients that hear and do: who hears all from the beginning on, hearing twice, in parts, of its own, of others. Nothing of the program is run here. Conditions: none beyond the lemmas' own premises.
-/
import Derived.Test.YtogafpfgdonlmaaDoorJCliM
namespace Go.Proofs.YtogafpfgdonlmaaDoor
open Go.RowKit

theorem madeI_is {who n : Int} (h1 : 1 ≤ who) (h2 : who ≤ 3) (h3 : 1 ≤ n) (h4 : n ≤ 6) : madeI who n = 10 * who + n := by simp [madeI, inB, h1, h2, h3, h4]
theorem madeI_no {who n : Int} (h : 6 < n) : madeI who n = 0 := by
  have : ¬ n ≤ 6 := by omega
  simp [madeI, inB, this]
theorem whoI_made {who n : Int} (h1 : 1 ≤ who) (h2 : who ≤ 3) (h3 : 1 ≤ n) (h4 : n ≤ 6) : whoI (madeI who n) = who := by
  have hm : madeB (10 * who + n) = true := (madeB_iff _).2 (by omega)
  rw [madeI_is h1 h2 h3 h4]
  unfold whoI
  rw [hm]; simp; omega
theorem fitB_iff {c : CliD} {fr : Int} {l : List EntD} : fitB c fr l = true ↔ fr ≤ c.seen ∧ fr + l.length ≤ 40 := by
  unfold fitB; rw [Bool.and_eq_true, decide_eq_true_eq, decide_eq_true_eq]
theorem hearable_iff {c : CliD} {fr : Int} {l : List EntD} : hearableB c fr l = true ↔ (fr ≤ c.seen ∧ fr + l.length ≤ 40) ∧ hearTo c (newE c fr l) (newE c fr l).length = true := by
  unfold hearableB; rw [Bool.and_eq_true, fitB_iff]
theorem hearTo_all {c : CliD} {l : List EntD} {k : Nat} (h : ∀ i, i < k → hstepB c l i = true) : hearTo c l k = true := by
  simp only [hearTo, List.all_eq_true, List.mem_range]; exact h
theorem log_ents {es : List EntD} (h : logB es = true) : entsB es = true := ents_all (fun _ hi => log_ent (logB_to h).1 hi)
theorem heardC_zero (c : CliD) (l : List EntD) : heardC c l 0 = c := by
  unfold heardC
  simp [cntTo, treeFrom]
theorem cnt_zero {es : List EntD} {who : Int} : ∀ {k : Nat}, cntTo es who k = 0 → ∀ i, i < k → (eat es i).who ≠ who
  | 0, _, i, hi => by omega
  | k + 1, h, i, hi => by
    rw [cntTo_succ] at h
    by_cases e : i = k
    · subst e
      intro q
      rw [if_pos q] at h; omega
    · exact cnt_zero (k := k) (by omega) i (by omega)
theorem cnt_none {es : List EntD} {who : Int} : ∀ {k : Nat}, (∀ i, i < k → (eat es i).who ≠ who) → cntTo es who k = 0
  | 0, _ => rfl
  | k + 1, h => by rw [cntTo_succ, if_neg (h k (by omega)), cnt_none (k := k) (fun i hi => h i (by omega))]
theorem newE_zero {c : CliD} {l : List EntD} (h : c.seen = 0) : newE c 0 l = l := by unfold newE; rw [h]; rfl
/-- Who hears all from the beginning on. -/
theorem hear_all {who : Int} {es : List EntD} (hw : cliB ⟨who, 0, r3, [], 0, 0⟩ = true) (h : logB es = true) :
    (0 < cntTo es who es.length → cliHear ⟨who, 0, r3, [], 0, 0⟩ 0 es = ⟨who, 0, r3, [], 0, 0⟩ ∧ cliHearB ⟨who, 0, r3, [], 0, 0⟩ 0 es = false) ∧
    (cntTo es who es.length = 0 → cliHear ⟨who, 0, r3, [], 0, 0⟩ 0 es = ⟨who, es.length, ltree es, [], 0, 0⟩ ∧ cliHearB ⟨who, 0, r3, [], 0, 0⟩ 0 es = true) := by
  have hok : chOk ⟨who, 0, r3, [], 0, 0⟩ 0 es = true := chOk_iff.2 ⟨hw, by omega, log_ents h⟩
  have hl := (logB_to h).2
  have hn : newE ⟨who, 0, r3, [], 0, 0⟩ 0 es = es := newE_zero rfl
  constructor
  · intro hp
    refine chear_same hok ?_
    rw [Bool.eq_false_iff]; intro g
    have h2 := (hearable_iff.1 g).2
    rw [hn] at h2
    have := hear_cnt h2
    simp at this; omega
  · intro hp
    have h2 : hearableB ⟨who, 0, r3, [], 0, 0⟩ 0 es = true := hearable_iff.2 ⟨⟨by simp, by omega⟩, by rw [hn]; exact hearTo_all (fun i hi => hstep_other (cnt_zero hp i hi))⟩
    have h3 := chear_is hok h2
    rw [hn] at h3
    refine ⟨h3.1.trans ?_, h3.2⟩
    unfold heardC
    simp only [hp, (ltree_ok h).1, treeTo, List.drop_zero]
    congr 1 <;> simp
end Go.Proofs.YtogafpfgdonlmaaDoor
