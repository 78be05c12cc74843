/-
  Rows in memory, and the contracts of the model's small functions on them. Conditions: the rows lie in memory as a slice of rows.
-/
import Derived.Test.YtefelnodahcolaaDoorTRows
import Derived.Test.YtefelnodahcolaaDoorLater
import Derived.Outline
namespace Go.Proofs.YtefelnodahcolaaDoor
open Go.ChangeShapes Go.WideShapes Go.ChangeAt Go.RowKit Go.Joins

/-- The rows rs lie at address a, below block B. -/
def RowsAt (B : Nat) (w : World) (a : Option Addr) (rs : List RowD) : Prop :=
  rs.length = 0 ∨ ∃ b off, a = some ⟨b, off, none⟩ ∧ b < B ∧ ∀ i, i < rs.length →
    w.cell? ⟨b, off + i * 3, none⟩ = some (.int .i64 (rat rs i).id) ∧ w.cell? ⟨b, off + i * 3 + 1, none⟩ = some (.int .i64 (rat rs i).dep) ∧ w.cell? ⟨b, off + i * 3 + 2, none⟩ = some (.string (rat rs i).txt)
/-- Numbers that fit and texts that are not too long. -/
def Fit (rs : List RowD) : Prop := rs.length ≤ 1048576 ∧ ∀ i, i < rs.length → I64 (rat rs i).id ∧ I64 (rat rs i).dep ∧ (rat rs i).txt.size ≤ maxLen
theorem RowsAt.below {B : Nat} {w w' : World} {a : Option Addr} {rs : List RowD} (h : RowsAt B w a rs) (hb : Below B w w') : RowsAt B w' a rs := by
  rcases h with h | ⟨b, off, rfl, hB, hc⟩
  · exact .inl h
  · refine .inr ⟨b, off, rfl, hB, fun i hi => ?_⟩
    rw [hb.cell (p := ⟨b, _, none⟩) hB, hb.cell (p := ⟨b, _, none⟩) hB, hb.cell (p := ⟨b, _, none⟩) hB]
    exact hc i hi
theorem RowsAt.mono {B B' : Nat} {w : World} {a : Option Addr} {rs : List RowD} (h : RowsAt B w a rs) (hb : B ≤ B') : RowsAt B' w a rs := by
  rcases h with h | ⟨b, off, rfl, hB, hc⟩
  · exact .inl h
  · exact .inr ⟨b, off, rfl, by omega, hc⟩
theorem RowsAt.at_ {B : Nat} {w : World} {a : Option Addr} {rs : List RowD} (h : RowsAt B w a rs) {i : Nat} (hi : i < rs.length) :
    ∃ b off, a = some ⟨b, off, none⟩ ∧ b < B ∧ w.cell? ⟨b, off + i * 3, none⟩ = some (.int .i64 (rat rs i).id) ∧ w.cell? ⟨b, off + i * 3 + 1, none⟩ = some (.int .i64 (rat rs i).dep) ∧ w.cell? ⟨b, off + i * 3 + 2, none⟩ = some (.string (rat rs i).txt) := by
  rcases h with h | ⟨b, off, rfl, hB, hc⟩
  · omega
  · exact ⟨b, off, rfl, hB, hc i hi⟩

theorem atI_found {rs : List RowD} {id : Int} {k : Nat} (hk : k < rs.length) (h : ∀ j, j < k → (rat rs j).id ≠ id) (e : ((rat rs k).id == id) = true) : atI rs id = (k : Int) := by
  have := atN_mk hk (by simpa using e) h
  rw [atI_pos (by omega), this]
theorem atI_missed {rs : List RowD} {id : Int} {k : Nat} (hk : ¬ k < rs.length) (h : ∀ j, j < k → (rat rs j).id ≠ id) : atI rs id = -1 :=
  atI_neg (atN_none fun j hj => h j (by omega))
theorem next_missed {rs : List RowD} {id : Int} {k : Nat} (h : ∀ j, j < k → (rat rs j).id ≠ id) (e : ((rat rs k).id == id) = false) : ∀ j, j < k + 1 → (rat rs j).id ≠ id := fun j hj => by
  by_cases ej : j = k
  · subst ej; simpa using e
  · exact h j (by omega)
theorem l2At_any (B : Nat) (a : Option Addr) (cap : Nat) (rs : List RowD) (id : Int) (w : World) (h : RowsAt B w a rs) (hf : Fit rs) :
    Calls Tryd.prog 31 #[.slice a rs.length cap, .int .i64 id] w fun e w' => e = .returned (.int .i64 (atI rs id)) ∧ w = w' := by
  have hl := hf.1
  go_enter Tryd.func31, Tryd.ntmps31
  go_wp2
  go_loop [5] (fun i => ∃ k : Nat, k ≤ rs.length ∧ i = .int .i64 k ∧ Hid (∀ j, j < k → (rat rs j).id ≠ id)) (fun i => rs.length - (intOf i).toNat)
  case atStart => exact ⟨0, Nat.zero_le _, rfl, fun j hj => by omega⟩
  case round =>
    obtain ⟨k, hk, rfl, ha⟩ := hrel
    by_cases hlt : k < rs.length
    · obtain ⟨b, off, rfl, hB, c0, c1, c2⟩ := h.at_ hlt
      cases he : ((rat rs k).id == id)
      · have HN := Lib.hid (next_missed ha.out he)
        go_wp2
        go_round
        case rel => exact ⟨k + 1, by omega, by go_num, HN⟩
        case measure => simp [intOf]; omega
      · have HF := Lib.hid (atI_found hlt ha.out he)
        go_wp2
        go_ret
        exact ⟨by rw [HF.out]; rfl, rfl⟩
    · have HF := Lib.hid (atI_missed hlt ha.out)
      go_wp2
      go_ret
      exact ⟨by rw [HF.out]; rfl, rfl⟩
end Go.Proofs.YtefelnodahcolaaDoor
