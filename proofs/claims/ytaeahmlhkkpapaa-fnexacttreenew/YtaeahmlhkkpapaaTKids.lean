/-
  Contract of the model's l2Kids: it returns the children's numbers in memory of its own. Conditions: the rows lie in memory as a slice of rows.
-/
import Derived.Test.YtaeahmlhkkpapaaTUp
import Derived.Maps.AppendAt
namespace Go.Proofs.Ytaeahmlhkkpapaa
open Go.ChangeShapes Go.WideShapes Go.ChangeAt Go.RowKit Go.Joins

/-- A slice of ints of the call's own, and nothing old turned. -/
def RetInts (xs : List Int) (w : World) (e : Ending) (w' : World) : Prop :=
  ∃ v, e = .returned v ∧ w'.ownsRow w.heap.size 3 1 v xs.length (xs.map (Value.int .i64)) ∧ Below w.heap.size w w'
theorem infoInt : (Try.prog.info? 3).map (fun i => (i.zero, i.size, i.bytes)) = some (some (.int .i64 0), 1, 8) := by kernel_rfl
theorem own_empty (w : World) (t : TypeId) : (w.alloc (.cells #[] t)).ownsRow w.heap.size t 1 (.slice (some ⟨w.heap.size, 0, none⟩) 0 0) 0 [] :=
  ⟨rfl, .inr ⟨w.heap.size, 0, #[], rfl, Nat.le_refl _, heap_alloc_new _ _, Nat.le_refl _, Nat.zero_le _, rfl, rfl⟩⟩
theorem own_below {w w' : World} {base : Nat} {e : TypeId} {size : Nat} {v : Value} {n : Nat} {xs : List Value} (h : w.ownsRow base e size v n xs) (hb : Below w.heap.size w w') : w'.ownsRow base e size v n xs := by
  obtain ⟨h1, h2⟩ := h
  refine ⟨h1, ?_⟩
  rcases h2 with h2 | ⟨g, cap, cur, hv, hg, hh, r⟩
  · exact .inl h2
  · have hlt : g < w.heap.size := by
      rcases Nat.lt_or_ge g w.heap.size with q | q
      · exact q
      · rw [Array.getElem?_eq_none q] at hh; cases hh
    exact .inr ⟨g, cap, cur, hv, hg, by rw [hb.block g hlt]; exact hh, r⟩
theorem own_drewN {w : World} {base : Nat} {e : TypeId} {size : Nat} {v : Value} {n : Nat} {xs : List Value} (k : Nat) (h : w.ownsRow base e size v n xs) : (w.drewN k).ownsRow base e size v n xs := h
theorem own_slice {w : World} {base : Nat} {e : TypeId} {size : Nat} {v : Value} {n : Nat} {xs : List Value} (h : w.ownsRow base e size v n xs) : ∃ a cap, v = .slice a n cap ∧ n ≤ cap := by
  rcases h.2 with ⟨rfl, rfl⟩ | ⟨g, cap, cur, hv, _, _, hc, _⟩
  · exact ⟨none, 0, rfl, Nat.le_refl _⟩
  · exact ⟨_, cap, hv, hc⟩
theorem own_block {w : World} {base : Nat} {e : TypeId} {size : Nat} {v : Value} {n : Nat} {xs : List Value} (h : w.ownsRow base e size v n xs) : ∀ k, v.ownBlock = some k → base ≤ k := by
  intro k hk
  rcases h.2 with ⟨rfl, rfl⟩ | ⟨g, cap, cur, rfl, hg, _⟩
  · cases hk
  · cases hk; exact hg
theorem kids_step_no {rs : List RowD} {i k : Nat} (hik : i + 1 ≤ k) (h : ((rat rs k).dep == (rat rs i).dep + 1) = false) : kidsOf rs i (i + 1) (k + 1 - (i + 1)) = kidsOf rs i (i + 1) (k - (i + 1)) := by
  rw [show k + 1 - (i + 1) = (k - (i + 1)) + 1 by omega, kidsOf_snoc, show i + 1 + (k - (i + 1)) = k by omega, if_neg (by unfold rdep; simpa using h), List.append_nil]
theorem kids_step_yes {rs : List RowD} {i k : Nat} (hik : i + 1 ≤ k) (h : ((rat rs k).dep == (rat rs i).dep + 1) = true) : kidsOf rs i (i + 1) (k + 1 - (i + 1)) = kidsOf rs i (i + 1) (k - (i + 1)) ++ [(rat rs k).id] := by
  rw [show k + 1 - (i + 1) = (k - (i + 1)) + 1 by omega, kidsOf_snoc, show i + 1 + (k - (i + 1)) = k by omega, if_pos (by unfold rdep; simpa using h)]
theorem kidsL_no {rs : List RowD} {id : Int} (h : ¬ atN rs id < rs.length) : kidsL rs id = [] := by unfold kidsL; rw [if_neg h]
theorem kidsL_yes {rs : List RowD} {id : Int} (h : atN rs id < rs.length) : kidsL rs id = kidsOf rs (atN rs id) (atN rs id + 1) (enR rs (atN rs id) - (atN rs id + 1)) := by unfold kidsL; rw [if_pos h]; rfl
theorem own_snoc {w : World} {base : Nat} {e : TypeId} {v : Value} {xs : List Int} {x : Int} (h : w.ownsRow base e 1 v (xs.length + 1) (xs.map (Value.int .i64) ++ [.int .i64 x])) : w.ownsRow base e 1 v (xs ++ [x]).length ((xs ++ [x]).map (Value.int .i64)) := by
  simpa using h
def SmallDep (rs : List RowD) : Prop := ∀ i, i < rs.length → -1000000 ≤ (rat rs i).dep ∧ (rat rs i).dep ≤ 1000000
end Go.Proofs.Ytaeahmlhkkpapaa
