/-
  The laws' own helpers toRowS, eqRow, eqRowS. Conditions: as each theorem says.
-/
import Derived.Test.YtiigkjpabbgnpaaDoorRowsArg
import Derived.Test.YtiigkjpabbgnpaaDoorTKids
namespace Go.Proofs.YtiigkjpabbgnpaaDoor
open Go.ChangeShapes Go.WideShapes Go.ChangeAt Go.RowKit Go.Joins

def RowsF (f : Nat → Value) (rs : List RowD) (k : Nat) : Prop := ∀ i, i < k → f (i * 3) = .int .i64 (rat rs i).id ∧ f (i * 3 + 1) = .int .i64 (rat rs i).dep ∧ f (i * 3 + 2) = .string (rat rs i).txt
/-- Block g holds the rows rs and nothing else; none of its cells is frozen. -/
def OwnRows (w : World) (g : Nat) (rs : List RowD) : Prop := ∃ f, w.rowIs g 29 (rs.length * 3) f ∧ RowsF f rs rs.length
theorem OwnRows.below {w w' : World} {g B : Nat} {rs : List RowD} (h : OwnRows w g rs) (hb : Below B w w') (hg : g < B) : OwnRows w' g rs := by
  obtain ⟨f, h1, h2⟩ := h
  exact ⟨f, h1.of_block (hb.block g hg), h2⟩
theorem OwnRows.lt {w : World} {g : Nat} {rs : List RowD} (h : OwnRows w g rs) : g < w.heap.size := by obtain ⟨f, h1, _⟩ := h; exact h1.lt
theorem OwnRows.at_ {w : World} {g B : Nat} {rs : List RowD} (h : OwnRows w g rs) (hg : g < B) : RowsAt B w (some ⟨g, 0, none⟩) rs := by
  obtain ⟨f, h1, h2⟩ := h
  refine .inr ⟨g, 0, rfl, hg, fun i hi => ?_⟩
  obtain ⟨a, b, c⟩ := h2 i hi
  rw [Nat.zero_add, h1.cell (show i * 3 < _ by omega), h1.cell (show i * 3 + 1 < _ by omega), h1.cell (show i * 3 + 2 < _ by omega), a, b, c]
  exact ⟨rfl, rfl, rfl⟩
def RetRows (rs : List RowD) (w : World) (e : Ending) (w' : World) : Prop := ∃ g, e = .returned (.slice (some ⟨g, 0, none⟩) rs.length rs.length) ∧ w.heap.size ≤ g ∧ OwnRows w' g rs ∧ Below w.heap.size w w'
theorem infoRow : (Tryd.prog.info? 29).map (fun i => (i.zero, i.size, i.bytes)) = some (some (.agg #[.int .i64 0, .int .i64 0, .string ⟨#[]⟩]), 3, 32) := by kernel_rfl
theorem rowIs_of_own {w : World} {base g n : Nat} {e : TypeId} {size : Nat} {xs : List Value} (h : w.ownsRow base e size (.slice (some ⟨g, 0, none⟩) n n) n xs) : ∃ f, w.rowIs g e (n * size) f := by
  rcases h.2 with ⟨h1, _⟩ | ⟨g', cap, cur, hv, _, hh, _, _, hs, _⟩
  · cases h1
  · cases hv
    exact ⟨fun i => cur.getD i undef, cur, hh, hs, fun i hi => by rw [Array.getElem?_eq_getElem (by omega)]; simp [Array.getD, show i < cur.size by omega]⟩
theorem rowsF_set {f : Nat → Value} {rs : List RowD} {k : Nat} (h : RowsF f rs k) :
    RowsF (fun j => if j = k * 3 + 2 then .string (rat rs k).txt else if j = k * 3 + 1 then .int .i64 (rat rs k).dep else if j = k * 3 then .int .i64 (rat rs k).id else f j) rs (k + 1) := by
  intro i hi
  by_cases e : i = k
  · subst e
    refine ⟨?_, ?_, ?_⟩
    · show (if _ then _ else if _ then _ else if _ then _ else _) = _
      rw [if_neg (by omega), if_neg (by omega), if_pos rfl]
    · show (if _ then _ else if _ then _ else if _ then _ else _) = _
      rw [if_neg (by omega), if_pos rfl]
    · show (if _ then _ else if _ then _ else if _ then _ else _) = _
      rw [if_pos rfl]
  · obtain ⟨a, b, c⟩ := h i (by omega)
    refine ⟨?_, ?_, ?_⟩
    · show (if _ then _ else if _ then _ else if _ then _ else _) = _
      rw [if_neg (by omega), if_neg (by omega), if_neg (by omega)]; exact a
    · show (if _ then _ else if _ then _ else if _ then _ else _) = _
      rw [if_neg (by omega), if_neg (by omega), if_neg (by omega)]; exact b
    · show (if _ then _ else if _ then _ else if _ then _ else _) = _
      rw [if_neg (by omega), if_neg (by omega), if_neg (by omega)]; exact c
/-! ### eqRow, eqRowS of one and the same -/
end Go.Proofs.YtiigkjpabbgnpaaDoor
