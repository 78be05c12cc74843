/-
  The laws' own helpers on slices of ints and rows: eqIntS, markText, markRowS, markIntS, heldIntS. Conditions: as each theorem says.
-/
import Derived.Test.YtefelnodahcolaaDoorToRows
namespace Go.Proofs.YtefelnodahcolaaDoor
open Go.ChangeShapes Go.WideShapes Go.ChangeAt Go.RowKit Go.Joins

/-- The ints xs lie at address a, in a block from base on, none of the cells frozen. -/
def IntsAt (base : Nat) (w : World) (a : Option Addr) (xs : List Int) : Prop :=
  xs.length = 0 ∨ ∃ g, a = some ⟨g, 0, none⟩ ∧ base ≤ g ∧ g < w.heap.size ∧ ∀ i, i < xs.length → w.cell? ⟨g, i, none⟩ = some (.int .i64 (xs.getD i 0)) ∧ w.frozen? ⟨g, i, none⟩ = false
theorem ints_of_own {w : World} {base : Nat} {e : TypeId} {a : Option Addr} {cap : Nat} {xs : List Int} (h : w.ownsRow base e 1 (.slice a xs.length cap) xs.length (xs.map (Value.int .i64))) : IntsAt base w a xs := by
  rcases h.2 with ⟨_, h0⟩ | ⟨g, cap', cur, hv, hg, hh, h1, h2, h3, h4⟩
  · exact .inl h0
  · cases hv
    refine .inr ⟨g, rfl, hg, (Array.getElem?_eq_some_iff.1 hh).1, fun i hi => ?_⟩
    have h5 : cur.toList[i]? = some (.int .i64 (xs.getD i 0)) := by
      have : (cur.toList.take (xs.length * 1))[i]? = (xs.map (Value.int .i64))[i]? := by rw [h4]
      rw [List.getElem?_take_of_lt (by omega)] at this
      rw [this, List.getElem?_map, List.getElem?_eq_getElem hi]
      simp [List.getD_eq_getElem?_getD, List.getElem?_eq_getElem hi]
    constructor
    · unfold World.cell?
      simp only [hh]
      simpa using h5
    · simp [World.frozen?, hh]
theorem IntsAt.below {base B : Nat} {w w' : World} {a : Option Addr} {xs : List Int} (h : IntsAt base w a xs) (hb : Below B w w') (hB : w.heap.size ≤ B) : IntsAt base w' a xs := by
  rcases h with h | ⟨g, rfl, hg, hl, hc⟩
  · exact .inl h
  · refine .inr ⟨g, rfl, hg, by have := hb.size; omega, fun i hi => ?_⟩
    rw [hb.cell (p := ⟨g, i, none⟩) (show g < B by omega), hb.frozen (p := ⟨g, i, none⟩) (show g < B by omega)]; exact hc i hi
theorem IntsAt.but {base b : Nat} {w w' : World} {a : Option Addr} {xs : List Int} (h : IntsAt base w a xs) (hb : But b w.heap.size w w') (hlt : b < base) : IntsAt base w' a xs := by
  rcases h with h | ⟨g, rfl, hg, hl, hc⟩
  · exact .inl h
  · refine .inr ⟨g, rfl, hg, by have := hb.size; omega, fun i hi => ?_⟩
    rw [hb.cell (p := ⟨g, i, none⟩) hl (show g ≠ b by omega), hb.frozen (p := ⟨g, i, none⟩) hl (show g ≠ b by omega)]; exact hc i hi
/-- Ints that lie below base are kept where nothing below base turns. -/
def IntsLow (base : Nat) (w : World) (a : Option Addr) (xs : List Int) : Prop :=
  xs.length = 0 ∨ ∃ g, a = some ⟨g, 0, none⟩ ∧ g < base ∧ ∀ i, i < xs.length → w.cell? ⟨g, i, none⟩ = some (.int .i64 (xs.getD i 0))
theorem IntsLow.below {base : Nat} {w w' : World} {a : Option Addr} {xs : List Int} (h : IntsLow base w a xs) (hb : Below base w w') : IntsLow base w' a xs := by
  rcases h with h | ⟨g, rfl, hg, hc⟩
  · exact .inl h
  · exact .inr ⟨g, rfl, hg, fun i hi => by rw [hb.cell (p := ⟨g, i, none⟩) hg]; exact hc i hi⟩
theorem IntsLow.mono {base base' : Nat} {w : World} {a : Option Addr} {xs : List Int} (h : IntsLow base w a xs) (hb : base ≤ base') : IntsLow base' w a xs := by
  rcases h with h | ⟨g, rfl, hg, hc⟩
  · exact .inl h
  · exact .inr ⟨g, rfl, by omega, hc⟩
theorem IntsAt.low {base : Nat} {w : World} {a : Option Addr} {xs : List Int} (h : IntsAt base w a xs) : IntsLow w.heap.size w a xs := by
  rcases h with h | ⟨g, rfl, hg, hl, hc⟩
  · exact .inl h
  · exact .inr ⟨g, rfl, hl, fun i hi => (hc i hi).1⟩
theorem IntsLow.at_ {base : Nat} {w : World} {a : Option Addr} {xs : List Int} (h : IntsLow base w a xs) {i : Nat} (hi : i < xs.length) : ∃ g, a = some ⟨g, 0, none⟩ ∧ g < base ∧ w.cell? ⟨g, i, none⟩ = some (.int .i64 (xs.getD i 0)) := by
  rcases h with h | ⟨g, rfl, hg, hc⟩
  · omega
  · exact ⟨g, rfl, hg, hc i hi⟩
/-! ### markIntS, heldIntS -/
def marks (n : Nat) : List Int := (List.range n).map fun (i : Nat) => ((i : Int) + 1)
theorem marks_len (n : Nat) : (marks n).length = n := by simp [marks]
theorem marks_at {n i : Nat} (h : i < n) : (marks n).getD i 0 = (i : Int) + 1 := by simp [marks, List.getD_eq_getElem?_getD, h]
def Marked (base : Nat) (a : Option Addr) (n : Nat) (w : World) (e : Ending) (w' : World) : Prop := e = .returned (.int .i64 ((n : Int) + 1)) ∧ IntsAt base w' a (marks n) ∧ Below base w w'
end Go.Proofs.YtefelnodahcolaaDoor
