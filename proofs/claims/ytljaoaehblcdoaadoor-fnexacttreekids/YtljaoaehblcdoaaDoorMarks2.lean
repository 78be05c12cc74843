/-
  The laws' own helpers on slices of ints and rows: eqIntS, markText, markRowS, markIntS, heldIntS. Conditions: as each theorem says.
-/
import Derived.Test.YtljaoaehblcdoaaDoorToRows
namespace Go.Proofs.YtljaoaehblcdoaaDoor
open Go.ChangeShapes Go.WideShapes Go.ChangeAt Go.RowKit Go.Joins

/-- The ints xs lie at address a, in a block from base on, none of the cells frozen. -/
def IntsAt (base : Nat) (w : World) (a : Option Addr) (xs : List Int) : Prop :=
  xs.length = 0 ∨ ∃ g, a = some ⟨g, 0, none⟩ ∧ base ≤ g ∧ g < w.heap.size ∧ ∀ i, i < xs.length → w.cell? ⟨g, i, none⟩ = some (.int .i64 (xs.getD i 0)) ∧ w.frozen? ⟨g, i, none⟩ = false
theorem ints_of_own {w : World} {base : Nat} {e : TypeId} {a : Option Addr} {cap : Nat} {xs : List Int} (h : w.ownsRow base e 1 (.slice a xs.length cap) xs.length (xs.map (Value.int .i64))) : IntsAt base w a xs := by
  rcases h.2 with ⟨_, h0⟩ | ⟨g, cap', cur, hv, hg, hh, h1, h2, h3, h4⟩
  · exact .inl h0
  · cases hv
    refine .inr ⟨g, rfl, hg, (Array.getElem?_eq_some_iff.1 hh).1, fun i hi => ?_⟩
    have h5 : cur.toList[i]? = some (.int .i64 (xs.getD i 0)) := by
      have : (cur.toList.take (xs.length * 1))[i]? = (xs.map (Value.int .i64))[i]? := by rw [h4]
      rw [List.getElem?_take_of_lt (by omega)] at this
      rw [this, List.getElem?_map, List.getElem?_eq_getElem hi]
      simp [List.getD_eq_getElem?_getD, List.getElem?_eq_getElem hi]
    constructor
    · unfold World.cell?
      simp only [hh]
      simpa using h5
    · simp [World.frozen?, hh]
theorem IntsAt.below {base B : Nat} {w w' : World} {a : Option Addr} {xs : List Int} (h : IntsAt base w a xs) (hb : Below B w w') (hB : w.heap.size ≤ B) : IntsAt base w' a xs := by
  rcases h with h | ⟨g, rfl, hg, hl, hc⟩
  · exact .inl h
  · refine .inr ⟨g, rfl, hg, by have := hb.size; omega, fun i hi => ?_⟩
    rw [hb.cell (p := ⟨g, i, none⟩) (show g < B by omega), hb.frozen (p := ⟨g, i, none⟩) (show g < B by omega)]; exact hc i hi
theorem IntsAt.but {base b : Nat} {w w' : World} {a : Option Addr} {xs : List Int} (h : IntsAt base w a xs) (hb : But b w.heap.size w w') (hlt : b < base) : IntsAt base w' a xs := by
  rcases h with h | ⟨g, rfl, hg, hl, hc⟩
  · exact .inl h
  · refine .inr ⟨g, rfl, hg, by have := hb.size; omega, fun i hi => ?_⟩
    rw [hb.cell (p := ⟨g, i, none⟩) hl (show g ≠ b by omega), hb.frozen (p := ⟨g, i, none⟩) hl (show g ≠ b by omega)]; exact hc i hi
/-- Ints that lie below base are kept where nothing below base turns. -/
def IntsLow (base : Nat) (w : World) (a : Option Addr) (xs : List Int) : Prop :=
  xs.length = 0 ∨ ∃ g, a = some ⟨g, 0, none⟩ ∧ g < base ∧ ∀ i, i < xs.length → w.cell? ⟨g, i, none⟩ = some (.int .i64 (xs.getD i 0))
theorem IntsLow.below {base : Nat} {w w' : World} {a : Option Addr} {xs : List Int} (h : IntsLow base w a xs) (hb : Below base w w') : IntsLow base w' a xs := by
  rcases h with h | ⟨g, rfl, hg, hc⟩
  · exact .inl h
  · exact .inr ⟨g, rfl, hg, fun i hi => by rw [hb.cell (p := ⟨g, i, none⟩) hg]; exact hc i hi⟩
theorem IntsLow.mono {base base' : Nat} {w : World} {a : Option Addr} {xs : List Int} (h : IntsLow base w a xs) (hb : base ≤ base') : IntsLow base' w a xs := by
  rcases h with h | ⟨g, rfl, hg, hc⟩
  · exact .inl h
  · exact .inr ⟨g, rfl, by omega, hc⟩
theorem IntsAt.low {base : Nat} {w : World} {a : Option Addr} {xs : List Int} (h : IntsAt base w a xs) : IntsLow w.heap.size w a xs := by
  rcases h with h | ⟨g, rfl, hg, hl, hc⟩
  · exact .inl h
  · exact .inr ⟨g, rfl, hl, fun i hi => (hc i hi).1⟩
theorem IntsLow.at_ {base : Nat} {w : World} {a : Option Addr} {xs : List Int} (h : IntsLow base w a xs) {i : Nat} (hi : i < xs.length) : ∃ g, a = some ⟨g, 0, none⟩ ∧ g < base ∧ w.cell? ⟨g, i, none⟩ = some (.int .i64 (xs.getD i 0)) := by
  rcases h with h | ⟨g, rfl, hg, hc⟩
  · omega
  · exact ⟨g, rfl, hg, hc i hi⟩
theorem eqIntS_same (B : Nat) (a a' : Option Addr) (cap cap' : Nat) (xs : List Int) (w : World) (hB : B ≤ w.heap.size) (h : IntsLow B w a xs) (h' : IntsLow B w a' xs) (hl : xs.length ≤ 1048576) :
    Calls Tryd.prog 24 #[.slice a xs.length cap, .slice a' xs.length cap'] w (RetBelow (.bool true) w) := by
  go_enter Tryd.func24, Tryd.ntmps24
  go_wp2_with fail
  go_loopw [5] (fun t wr => ∃ k : Nat, k ≤ xs.length ∧ t = .int .i64 k ∧ Below w.heap.size w wr) (fun t _ => xs.length - (intOf t).toNat)
  case atStart => exact ⟨0, Nat.zero_le _, rfl, Below.refl _ _⟩
  case round =>
    obtain ⟨k, hk, rfl, hb⟩ := hrel
    have hr := h.below (hb.mono hB)
    have hr' := h'.below (hb.mono hB)
    by_cases hlt : k < xs.length
    · obtain ⟨g, rfl, hg, c0⟩ := hr.at_ hlt
      obtain ⟨g', rfl, hg', d0⟩ := hr'.at_ hlt
      have i1 : (k : Int) < (xs.length : Int) := by omega
      generalize xs.getD k 0 = q at c0 d0
      go_wp2
      go_quiet (fail)
      go_wp2
      go_roundw
      case rel => exact ⟨k + 1, by omega, by go_num, below_drewN _ hb⟩
      case measure => simp [intOf]; omega
    · go_wp2
      go_ret
      exact ⟨rfl, hb⟩

/-! ### markIntS, heldIntS -/
def marks (n : Nat) : List Int := (List.range n).map fun (i : Nat) => ((i : Int) + 1)
theorem marks_len (n : Nat) : (marks n).length = n := by simp [marks]
theorem marks_at {n i : Nat} (h : i < n) : (marks n).getD i 0 = (i : Int) + 1 := by simp [marks, List.getD_eq_getElem?_getD, h]
def Marked (base : Nat) (a : Option Addr) (n : Nat) (w : World) (e : Ending) (w' : World) : Prop := e = .returned (.int .i64 ((n : Int) + 1)) ∧ IntsAt base w' a (marks n) ∧ Below base w w'
theorem markIntS_any (base : Nat) (a : Option Addr) (cap : Nat) (xs : List Int) (w : World) (hB : base ≤ w.heap.size) (h : IntsAt base w a xs) (hl : xs.length ≤ 1048576) :
    Calls Tryd.prog 25 #[.slice a xs.length cap, .int .i64 1] w (Marked base a xs.length w) := by
  rcases h with h0 | ⟨g, rfl, hg, hgl, hc⟩
  · rw [h0]
    go_enter Tryd.func25, Tryd.ntmps25
    go_wp2_with fail
    go_loopw [1, 5] (fun m t wr => m = .int .i64 1 ∧ t = .int .i64 0 ∧ wr = w) (fun _ _ _ => 0)
    case atStart => exact ⟨rfl, rfl, rfl⟩
    case round =>
      obtain ⟨rfl, rfl, rfl⟩ := hrel
      go_wp2
      go_ret
      exact ⟨rfl, .inl rfl, Below.refl _ _⟩
  · have HC := Lib.hid hc
    clear hc
    go_enter Tryd.func25, Tryd.ntmps25
    go_wp2_with fail
    go_loopw [1, 5] (fun m t wr => ∃ k : Nat, k ≤ xs.length ∧ t = .int .i64 k ∧ m = .int .i64 ((k : Int) + 1) ∧ g < wr.heap.size ∧ Hid (∀ i, i < xs.length → (∃ v, wr.cell? ⟨g, i, none⟩ = some (.int .i64 v) ∧ (i < k → v = (i : Int) + 1)) ∧ wr.frozen? ⟨g, i, none⟩ = false) ∧ Below base w wr) (fun _ t _ => xs.length - (intOf t).toNat)
    case atStart => exact ⟨0, Nat.zero_le _, rfl, rfl, hgl, fun i hi => ⟨⟨_, (HC.out i hi).1, fun h => by omega⟩, (HC.out i hi).2⟩, Below.refl _ _⟩
    case round =>
      obtain ⟨k, hk, rfl, rfl, hgw, hall, hb⟩ := hrel
      by_cases hlt : k < xs.length
      · obtain ⟨⟨v, c0, _⟩, z0⟩ := hall.out k hlt
        have i1 : (k : Int) < (xs.length : Int) := by omega
        have HN : Hid (∀ i, i < xs.length → (∃ v, (wr.setCell ⟨g, k, none⟩ (.int .i64 ((k : Int) + 1))).cell? ⟨g, i, none⟩ = some (.int .i64 v) ∧ (i < k + 1 → v = (i : Int) + 1)) ∧ (wr.setCell ⟨g, k, none⟩ (.int .i64 ((k : Int) + 1))).frozen? ⟨g, i, none⟩ = false) := fun i hi => by
          obtain ⟨⟨u, d0, d1⟩, y0⟩ := hall.out i hi
          refine ⟨?_, by rw [World.frozen?_setCell]; exact y0⟩
          by_cases e : i = k
          · subst e
            exact ⟨_, World.cell?_setCell_same' _ _ _ (by rw [c0]; rfl), fun _ => rfl⟩
          · exact ⟨u, by rw [World.cell?_setCell_other _ _ _ _ (fun q => by cases q; exact e rfl)]; exact d0, fun h => d1 (by omega)⟩
        go_wp2
        go_roundw
        case rel => exact ⟨k + 1, by omega, by go_num, by go_num, by simpa [World.setCell] using hgw, HN, hb.setCell (p := ⟨g, k, none⟩) hg _⟩
        case measure => simp [intOf]; omega
      · obtain rfl : k = xs.length := by omega
        go_wp2
        go_ret
        refine ⟨rfl, .inr ⟨g, rfl, hg, hgw, fun i hi => ?_⟩, hb⟩
        rw [marks_len] at hi
        obtain ⟨⟨u, d0, d1⟩, y0⟩ := hall.out i hi
        rw [marks_at hi, ← d1 hi]
        exact ⟨d0, y0⟩
theorem heldIntS_any (B : Nat) (a : Option Addr) (cap n : Nat) (w : World) (h : IntsLow B w a (marks n)) (hl : n ≤ 1048576) :
    Calls Tryd.prog 26 #[.slice a n cap, .int .i64 1] w (fun e w' => e = .returned (.int .i64 ((n : Int) + 1)) ∧ w = w') := by
  go_enter Tryd.func26, Tryd.ntmps26
  go_wp2_with fail
  go_loop [1, 5] (fun m t => ∃ k : Nat, k ≤ n ∧ t = .int .i64 k ∧ m = .int .i64 ((k : Int) + 1)) (fun _ t => n - (intOf t).toNat)
  case atStart => exact ⟨0, Nat.zero_le _, rfl, rfl⟩
  case round =>
    obtain ⟨k, hk, rfl, rfl⟩ := hrel
    by_cases hlt : k < n
    · obtain ⟨g, rfl, hg, c0⟩ := h.at_ (show k < (marks n).length by rw [marks_len]; exact hlt)
      rw [marks_at hlt] at c0
      have i1 : (k : Int) < (n : Int) := by omega
      go_wp2
      go_round
      case rel => exact ⟨k + 1, by omega, by go_num, by go_num⟩
      case measure => simp [intOf]; omega
    · obtain rfl : k = n := by omega
      go_wp2
      go_ret
      exact ⟨rfl, rfl⟩
end Go.Proofs.YtljaoaehblcdoaaDoor
