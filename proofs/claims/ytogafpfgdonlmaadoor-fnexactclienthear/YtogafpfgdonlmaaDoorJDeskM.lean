/-
  Desks: the 286 cells of a client at work, with a ring of forty entries; plain facts on such cells. Conditions: as each theorem says.
-/
import Derived.Test.YtogafpfgdonlmaaDoorJCliA
namespace Go.Proofs.YtogafpfgdonlmaaDoor
open Go.ChangeShapes Go.WideShapes Go.ChangeAt Go.RowKit Go.Joins

/-- Where the entry with number s (from 1 on) lies in a desk. -/
def slotAt (s : Nat) : Nat := 3 + s % 40 * 7
/-- The cells of a desk: who, how many are in, the outline's rows, the ring (slots, first, end), how many were made. The ring holds what waits. -/
structure DeskV (cs : Array Value) (c : CliD) (v : Value) (f : Nat) : Prop where
  size : cs.size = 286
  plain : ∀ u ∈ cs, u.oneCell' = true
  who : cs[0]? = some (.int .i64 c.who)
  seen : cs[1]? = some (.int .i64 c.seen)
  rows : cs[2]? = some v
  first : cs[283]? = some (.int .i64 (f : Int))
  end_ : cs[284]? = some (.int .i64 ((f + c.wait.length : Nat) : Int))
  made : cs[285]? = some (.int .i64 c.made)
  ring : ∀ i, i < c.wait.length → ∀ j, j < 7 → cs[slotAt (f + i) + j]? = some (ecell (eat c.wait i) j)
theorem slot_lo (s : Nat) : 3 ≤ slotAt s := by unfold slotAt; omega
theorem slot_hi (s : Nat) : slotAt s + 7 ≤ 283 := by unfold slotAt; omega
theorem slot_ne {s t : Nat} (h1 : s < t) (h2 : t < s + 40) (j k : Nat) (hj : j < 7) (hk : k < 7) : slotAt s + j ≠ slotAt t + k := by
  unfold slotAt; omega
/-- One entry laid into a slot. -/
def laySlot (cs : Array Value) (o : Nat) (e : EntD) : Array Value := ((((((cs.setIfInBounds o (.int .i64 e.who)).setIfInBounds (o + 1) (.int .i64 e.seq)).setIfInBounds (o + 2) (.int .i64 e.op.kind)).setIfInBounds (o + 3) (.int .i64 e.op.id)).setIfInBounds (o + 4) (.int .i64 e.op.up)).setIfInBounds (o + 5) (.int .i64 e.op.at_)).setIfInBounds (o + 6) (.string e.op.txt)
theorem lay_size (cs : Array Value) (o : Nat) (e : EntD) : (laySlot cs o e).size = cs.size := by simp [laySlot]
theorem lay_out (cs : Array Value) (o : Nat) (e : EntD) (k : Nat) (h : k < o ∨ o + 7 ≤ k) : (laySlot cs o e)[k]? = cs[k]? := by
  unfold laySlot
  rw [Array.getElem?_setIfInBounds_ne (by omega), Array.getElem?_setIfInBounds_ne (by omega), Array.getElem?_setIfInBounds_ne (by omega), Array.getElem?_setIfInBounds_ne (by omega), Array.getElem?_setIfInBounds_ne (by omega), Array.getElem?_setIfInBounds_ne (by omega), Array.getElem?_setIfInBounds_ne (by omega)]
theorem lay_in (cs : Array Value) (o : Nat) (e : EntD) (j : Nat) (hj : j < 7) (h : o + 7 ≤ cs.size) : (laySlot cs o e)[o + j]? = some (ecell e j) := by
  unfold laySlot
  simp only [Array.getElem?_setIfInBounds, Array.size_setIfInBounds]
  match j, hj with
  | 0, _ => simp [ecell, show o < cs.size by omega]
  | 1, _ => simp [ecell, show o + 1 < cs.size by omega]
  | 2, _ => simp [ecell, show o + 2 < cs.size by omega]
  | 3, _ => simp [ecell, show o + 3 < cs.size by omega]
  | 4, _ => simp [ecell, show o + 4 < cs.size by omega]
  | 5, _ => simp [ecell, show o + 5 < cs.size by omega]
  | 6, _ => simp [ecell, show o + 6 < cs.size by omega]
theorem plain_set {cs : Array Value} (h : ∀ u ∈ cs, u.oneCell' = true) (o : Nat) (v : Value) (hv : v.oneCell' = true) : ∀ u ∈ cs.setIfInBounds o v, u.oneCell' = true := by
  intro u hu
  rcases Array.mem_or_eq_of_mem_setIfInBounds hu with q | rfl
  · exact h u q
  · exact hv
theorem plain_lay {cs : Array Value} (h : ∀ u ∈ cs, u.oneCell' = true) (o : Nat) (e : EntD) : ∀ u ∈ laySlot cs o e, u.oneCell' = true :=
  plain_set (plain_set (plain_set (plain_set (plain_set (plain_set (plain_set h _ _ rfl) _ _ rfl) _ _ rfl) _ _ rfl) _ _ rfl) _ _ rfl) _ _ rfl
/-- An entry put behind all that wait. -/
theorem DeskV.put {cs : Array Value} {c : CliD} {v : Value} {f : Nat} (h : DeskV cs c v f) (e : EntD) (hl : c.wait.length < 40) :
    DeskV ((laySlot cs (slotAt (f + c.wait.length)) e).setIfInBounds 284 (.int .i64 ((f + c.wait.length + 1 : Nat) : Int))) ⟨c.who, c.seen, c.base, c.wait ++ [e], c.done, c.made⟩ v f := by
  have hs := h.size
  have h1 := slot_lo (f + c.wait.length)
  have h2 := slot_hi (f + c.wait.length)
  have out : ∀ k, k ≠ 284 → (k < slotAt (f + c.wait.length) ∨ slotAt (f + c.wait.length) + 7 ≤ k) → ((laySlot cs (slotAt (f + c.wait.length)) e).setIfInBounds 284 (.int .i64 ((f + c.wait.length + 1 : Nat) : Int)))[k]? = cs[k]? := fun k hk hk2 => by
    rw [Array.getElem?_setIfInBounds_ne (by omega), lay_out _ _ _ _ hk2]
  refine ⟨by simp [lay_size, hs], plain_set (plain_lay h.plain _ _) _ _ rfl, ?_, ?_, ?_, ?_, ?_, ?_, ?_⟩
  · rw [out 0 (by omega) (by omega)]; exact h.who
  · rw [out 1 (by omega) (by omega)]; exact h.seen
  · rw [out 2 (by omega) (by omega)]; exact h.rows
  · rw [out 283 (by omega) (by omega)]; exact h.first
  · rw [Array.getElem?_setIfInBounds_self_of_lt (by rw [lay_size]; omega)]
    simp [Nat.add_assoc]
  · rw [out 285 (by omega) (by omega)]; exact h.made
  · intro i hi j hj
    simp only [List.length_append, List.length_singleton] at hi
    have g1 := slot_lo (f + i)
    have g2 := slot_hi (f + i)
    by_cases q : i = c.wait.length
    · subst q
      rw [Array.getElem?_setIfInBounds_ne (by omega), lay_in _ _ _ _ hj (by omega), eat_app_last]
    · have hne : slotAt (f + i) + j < slotAt (f + c.wait.length) ∨ slotAt (f + c.wait.length) + 7 ≤ slotAt (f + i) + j := by
        rcases Nat.lt_or_ge (slotAt (f + i) + j) (slotAt (f + c.wait.length)) with q2 | q2
        · exact .inl q2
        · rcases Nat.lt_or_ge (slotAt (f + i) + j) (slotAt (f + c.wait.length) + 7) with q3 | q3
          · exact absurd (show slotAt (f + i) + j = slotAt (f + c.wait.length) + (slotAt (f + i) + j - slotAt (f + c.wait.length)) by omega) (slot_ne (by omega) (by omega) _ _ hj (by omega))
          · exact .inr q3
      rw [out _ (by omega) hne, h.ring i (by omega) j hj, eat_app_left (by omega)]
/-- The entry that waits longest taken out. -/
theorem DeskV.take {cs : Array Value} {c : CliD} {v : Value} {f : Nat} (h : DeskV cs c v f) (hl : 0 < c.wait.length) :
    DeskV (cs.setIfInBounds 283 (.int .i64 ((f + 1 : Nat) : Int))) ⟨c.who, c.seen, c.base, c.wait.drop 1, c.done + 1, c.made⟩ v (f + 1) := by
  have hs := h.size
  have out : ∀ k, k ≠ 283 → (cs.setIfInBounds 283 (.int .i64 ((f + 1 : Nat) : Int)))[k]? = cs[k]? := fun k hk => Array.getElem?_setIfInBounds_ne (by omega)
  refine ⟨by simp [hs], plain_set h.plain _ _ rfl, ?_, ?_, ?_, ?_, ?_, ?_, ?_⟩
  · rw [out 0 (by omega)]; exact h.who
  · rw [out 1 (by omega)]; exact h.seen
  · rw [out 2 (by omega)]; exact h.rows
  · rw [Array.getElem?_setIfInBounds_self_of_lt (by omega)]
  · rw [out 284 (by omega), h.end_, List.length_drop]
    congr 3; omega
  · rw [out 285 (by omega)]; exact h.made
  · intro i hi j hj
    rw [List.length_drop] at hi
    have g2 := slot_hi (f + (1 + i))
    rw [show f + 1 + i = f + (1 + i) by omega, out _ (by omega), h.ring (1 + i) (by omega) j hj, eat_drop]
/-- The outline's rows set. -/
theorem DeskV.rowsSet {cs : Array Value} {c : CliD} {v : Value} {f : Nat} (h : DeskV cs c v f) (u : Value) (hu : u.oneCell' = true) (rs : List RowD) : DeskV (cs.setIfInBounds 2 u) ⟨c.who, c.seen, rs, c.wait, c.done, c.made⟩ u f := by
  have hs := h.size
  have out : ∀ k, k ≠ 2 → (cs.setIfInBounds 2 u)[k]? = cs[k]? := fun k hk => Array.getElem?_setIfInBounds_ne (by omega)
  refine ⟨by simp [hs], plain_set h.plain _ _ hu, ?_, ?_, ?_, ?_, ?_, ?_, ?_⟩
  · rw [out 0 (by omega)]; exact h.who
  · rw [out 1 (by omega)]; exact h.seen
  · rw [Array.getElem?_setIfInBounds_self_of_lt (by omega)]
  · rw [out 283 (by omega)]; exact h.first
  · rw [out 284 (by omega)]; exact h.end_
  · rw [out 285 (by omega)]; exact h.made
  · intro i hi j hj
    have g := slot_lo (f + i)
    rw [out _ (by omega)]; exact h.ring i hi j hj
theorem DeskV.seenSet {cs : Array Value} {c : CliD} {v : Value} {f : Nat} (h : DeskV cs c v f) (n : Int) : DeskV (cs.setIfInBounds 1 (.int .i64 n)) ⟨c.who, n, c.base, c.wait, c.done, c.made⟩ v f := by
  have hs := h.size
  have out : ∀ k, k ≠ 1 → (cs.setIfInBounds 1 (.int .i64 n))[k]? = cs[k]? := fun k hk => Array.getElem?_setIfInBounds_ne (by omega)
  refine ⟨by simp [hs], plain_set h.plain _ _ rfl, ?_, ?_, ?_, ?_, ?_, ?_, ?_⟩
  · rw [out 0 (by omega)]; exact h.who
  · rw [Array.getElem?_setIfInBounds_self_of_lt (by omega)]
  · rw [out 2 (by omega)]; exact h.rows
  · rw [out 283 (by omega)]; exact h.first
  · rw [out 284 (by omega)]; exact h.end_
  · rw [out 285 (by omega)]; exact h.made
  · intro i hi j hj
    have g := slot_lo (f + i)
    rw [out _ (by omega)]; exact h.ring i hi j hj
theorem DeskV.madeSet {cs : Array Value} {c : CliD} {v : Value} {f : Nat} (h : DeskV cs c v f) (n : Int) : DeskV (cs.setIfInBounds 285 (.int .i64 n)) ⟨c.who, c.seen, c.base, c.wait, c.done, n⟩ v f := by
  have hs := h.size
  have out : ∀ k, k ≠ 285 → (cs.setIfInBounds 285 (.int .i64 n))[k]? = cs[k]? := fun k hk => Array.getElem?_setIfInBounds_ne (by omega)
  refine ⟨by simp [hs], plain_set h.plain _ _ rfl, ?_, ?_, ?_, ?_, ?_, ?_, ?_⟩
  · rw [out 0 (by omega)]; exact h.who
  · rw [out 1 (by omega)]; exact h.seen
  · rw [out 2 (by omega)]; exact h.rows
  · rw [out 283 (by omega)]; exact h.first
  · rw [out 284 (by omega)]; exact h.end_
  · rw [Array.getElem?_setIfInBounds_self_of_lt (by omega)]
  · intro i hi j hj
    have g := slot_hi (f + i)
    rw [out _ (by omega)]; exact h.ring i hi j hj
end Go.Proofs.YtogafpfgdonlmaaDoor
