/-
  Plain mathematics: where a change puts its row, by nodes and by numbers. Nothing of the program is run here. Conditions: none beyond the lemmas' own premises.
-/
import Derived.Test.YtefelnodahcolaaDoorNear
import Derived.Test.YtefelnodahcolaaDoorKidMath
namespace Go.Proofs.YtefelnodahcolaaDoor

theorem there_iff {rs : List RowD} {id : Int} : thereB rs id = true ↔ atN rs id < rs.length := by simp [thereB]
theorem kids_at {rs : List RowD} (ht : treeB rs = true) {up at' : Int} (hu : thereB rs up = true) : at' ∈ kidsL rs up ↔ (thereB rs at' = true ∧ par (dp rs) (atN rs at' + 1) = atN rs up + 1) := by
  have hul := there_iff.1 hu
  have eu := atN_id hul
  have hk : kidsL rs up = kidsT rs (rat rs (atN rs up)).id := by rw [eu]; simp [kidsT, ht]
  constructor
  · intro h
    have h2 : atN rs at' < rs.length := kidsL_there h
    refine ⟨there_iff.2 h2, ?_⟩
    rw [← kid_par ht hul h2, atN_id h2, ← hk]; exact h
  · rintro ⟨h1, h2⟩
    have hl := there_iff.1 h1
    have := (kid_par ht hul hl).2 h2
    rw [atN_id hl, ← hk] at this; exact this
theorem there_pos {rs : List RowD} (ht : treeB rs = true) {id : Int} (h : thereB rs id = true) : 1 ≤ id ∧ id ≤ 36 := by
  have hl := there_iff.1 h
  have := rok_id ((treeP_of ht).rok _ hl)
  rw [atN_id hl] at this; exact this
theorem at_inj {rs : List RowD} {a b : Int} (ha : thereB rs a = true) (hb : thereB rs b = true) (h : atN rs a = atN rs b) : a = b := by
  rw [← atN_id (there_iff.1 ha), ← atN_id (there_iff.1 hb), h]
theorem third_root (rs : List RowD) : ∀ k, nroots rs k = 3 → ∃ i, i < k ∧ rootB (rat rs i).id = true ∧ nroots rs i = 2
  | 0, h => by simp [nroots] at h
  | k + 1, h => by
    unfold nroots at h
    by_cases hr : rootB (rat rs k).id = true
    · rw [if_pos hr] at h
      exact ⟨k, by omega, hr, by omega⟩
    · rw [if_neg hr] at h
      obtain ⟨i, a, b⟩ := third_root rs k (by omega)
      exact ⟨i, by omega, b⟩
theorem tree_three {rs : List RowD} (ht : treeB rs = true) : thereB rs 3 = true := by
  have hT := treeP_of ht
  obtain ⟨i, a, b, c⟩ := third_root rs rs.length hT.three
  have e := hT.rord i a b
  rw [c] at e
  have := there_at a
  rw [e] at this
  exact there_iff.2 this
def rowO (rs : List RowD) (o : OpD) : Option Nat := if o.kind = 3 then nodeO rs o.id else none
theorem nearA_where {rs : List RowD} {o : OpD} (ht : treeB rs = true) (hk : o.kind = 1 ∨ o.kind = 3) (hn : noWhereB rs o = false) (hu : thereB rs o.up = true) :
    nearA rs o.up o.at_ (rowO rs o) = if 0 < whereA rs o then some (atN rs (whereA rs o) + 1) else none := by
  have hA : whereA rs o = atOfL (kidsL rs o.up) o := by simp [whereA, hn, hu]
  have hany : ((kidsL rs o.up).any (fun x => (x == o.at_) && (o.at_ != o.id))) = true ↔ (o.at_ ∈ kidsL rs o.up ∧ o.at_ ≠ o.id) := by
    simp only [List.any_eq_true, Bool.and_eq_true, beq_iff_eq, bne_iff_ne, ne_eq]
    constructor
    · rintro ⟨x, h1, rfl, h2⟩; exact ⟨h1, h2⟩
    · rintro ⟨h1, h2⟩; exact ⟨_, h1, rfl, h2⟩
  by_cases hc : o.at_ ∈ kidsL rs o.up ∧ o.at_ ≠ o.id
  · have h1 := (kids_at ht hu).1 hc.1
    have e : whereA rs o = o.at_ := by rw [hA, atOfL, if_pos (hany.2 hc)]
    have hp := (there_pos ht h1.1).1
    rw [e, if_pos (by omega)]
    have hr : (rowO rs o == some (atN rs o.at_ + 1)) = false := by
      rw [beq_eq_false_iff_ne]; intro g
      unfold rowO at g; split at g
      · unfold nodeO at g; split at g
        · rename_i hid
          have := Option.some.inj g
          exact hc.2 (at_inj h1.1 hid (by omega))
        · cases g
      · cases g
    simp [nearA, hu, h1.1, hr, h1.2]
  · have e : whereA rs o = 0 := by rw [hA, atOfL, if_neg (fun g => hc (hany.1 g))]
    rw [e, if_neg (by omega)]
    unfold nearA
    rw [if_neg]
    intro g
    simp only [Bool.and_eq_true, Bool.not_eq_true', beq_iff_eq] at g
    obtain ⟨⟨⟨_, g2⟩, g3⟩, g4⟩ := g
    refine hc ⟨(kids_at ht hu).2 ⟨g2, g4⟩, fun e2 => ?_⟩
    rcases hk with hk | hk
    · rw [e2] at g2
      simp [noWhereB, hk, g2] at hn
    · have : rowO rs o = some (atN rs o.at_ + 1) := by rw [e2] at g2 ⊢; simp [rowO, hk, nodeO, g2]
      rw [this] at g3; simp at g3
/-- The nodes under which, and behind which, a change puts its row. -/
def whU (rs : List RowD) (o : OpD) : Option Nat := if noWhereB rs o then none else some (atN rs (whereU rs o) + 1)
def whA (rs : List RowD) (o : OpD) : Option Nat := if noWhereB rs o then none else if 0 < whereA rs o then some (atN rs (whereA rs o) + 1) else none
theorem near_whU {rs : List RowD} {o : OpD} (ht : treeB rs = true) (hn : noWhereB rs o = false) : nearU rs o.up = whU rs o := by
  unfold whU nearU whereU
  rw [hn]
  simp only [Bool.false_eq_true, if_false]
  split
  · rfl
  · rw [nodeO_yes (tree_three ht)]
theorem near_whA {rs : List RowD} {o : OpD} (ht : treeB rs = true) (hk : o.kind = 1 ∨ o.kind = 3) (hn : noWhereB rs o = false) : nearA rs o.up o.at_ (rowO rs o) = whA rs o := by
  cases hu : thereB rs o.up
  · have e : whereA rs o = 0 := by simp [whereA, hu]
    simp [nearA, hu, whA, e]
  · rw [nearA_where ht hk hn hu]
    unfold whA
    rw [hn]; simp
theorem wh_no {rs : List RowD} {o : OpD} (hn : noWhereB rs o = true) : whU rs o = none ∧ whA rs o = none := by simp [whU, whA, hn]
theorem noWhere1 {rs : List RowD} {o : OpD} (hk : o.kind = 1) : noWhereB rs o = thereB rs o.id := by
  cases h : thereB rs o.id <;> simp [noWhereB, hk, h]
theorem noWhere2 {rs : List RowD} {o : OpD} (hk : o.kind = 2) : noWhereB rs o = true := by simp [noWhereB, hk]
theorem noWhere3 {rs : List RowD} {o : OpD} (hk : o.kind = 3) : noWhereB rs o = (!thereB rs o.id || undB rs o.up o.id) := by
  cases h : thereB rs o.id <;> simp [noWhereB, hk, h]
theorem undB_node {rs : List RowD} (ht : treeB rs = true) {a b : Int} (ha : thereB rs a = true) (hb : thereB rs b = true) : undB rs a b = unB (dp rs) (rs.length + 1) (atN rs a + 1) (atN rs b + 1) := by
  have h1 : hasB rs a = true := hasB_iff.2 ⟨ht, there_iff.1 ha⟩
  have h2 : hasB rs b = true := hasB_iff.2 ⟨ht, there_iff.1 hb⟩
  rw [← undT_eq h1 h2]; simp [undT, ht]
theorem undB_gone {rs : List RowD} {a b : Int} (ha : thereB rs a = false) : undB rs a b = false := by
  have : ¬ atN rs a < rs.length := by simpa [thereB] using ha
  simp [undB, this]
end Go.Proofs.YtefelnodahcolaaDoor
