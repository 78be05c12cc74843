/-
  Contracts of the program's TreeUnder and TreeKids: they answer as the model's. Conditions: the rows lie in memory as a slice of rows; the table 'creators' holds what its initialiser lays.
-/
import Derived.Test.YtefelnodahcolaaDoorTImpl
import Derived.Test.YtefelnodahcolaaDoorPtrEq
namespace Go.Proofs.YtefelnodahcolaaDoor
open Go.ChangeShapes Go.WideShapes Go.ChangeAt Go.RowKit Go.Joins

theorem undT_no1 {rs : List RowD} {id under : Int} (h : hasB rs id = false) : undT rs id under = false := by
  cases ht : treeB rs
  · simp [undT, ht]
  · simp only [hasB, ht, Bool.true_and, decide_eq_false_iff_not] at h
    simp [undT, undB_no1 h]
theorem undT_no2 {rs : List RowD} {id under : Int} (h : hasB rs under = false) : undT rs id under = false := by
  cases ht : treeB rs
  · simp [undT, ht]
  · simp only [hasB, ht, Bool.true_and, decide_eq_false_iff_not] at h
    simp [undT, undB_no2 h]
theorem undT_un {rs : List RowD} {id under : Int} (h1 : hasB rs id = true) (h2 : hasB rs under = true) : undT rs id under = true ↔ un (dp rs) (rs.length + 1) (atN rs id + 1) (atN rs under + 1) := by
  obtain ⟨ht, ha⟩ := hasB_iff.1 h1
  obtain ⟨_, hb⟩ := hasB_iff.1 h2
  unfold un
  rw [en_shift hb]
  simp only [undT, ht, undB, ha, hb, decide_true, Bool.true_and, Bool.and_eq_true, decide_eq_true_eq]
  omega
/-- Where the program's look upwards stands: at node c, or beyond the top. -/
def curO (k : Nat) : Option Nat := if k = 0 then none else some (k - 1)
theorem un_top {D : Nat → Int} {m b : Nat} (hb : 1 ≤ b) : ¬ un D m 0 b := fun h => by have := h.1; omega
def unB (D : Nat → Int) (m a b : Nat) : Bool := decide (b ≤ a) && decide (a < en D m b)
theorem unB_iff {D : Nat → Int} {m a b : Nat} : unB D m a b = true ↔ un D m a b := by simp [unB, un]
set_option maxRecDepth 100000 in
theorem under_any (nb : Nat → Nat) (rs : List RowD) (x y : Nat) (w : World) (hD : Deps (dp rs) (rs.length + 1)) (hN : Nodes w nb rs (rs.length + 1)) (hx : x < rs.length + 1) (hy : y < rs.length + 1) (hy1 : 1 ≤ y) :
    Calls Tryd.prog 73 #[.pointer (some ⟨nb x, 0, none⟩), .pointer (some ⟨nb y, 0, none⟩)] w fun e w' => e = .returned (.bool (unB (dp rs) (rs.length + 1) x y)) ∧ w = w' := by
  have HD := Lib.hid hD
  clear hD
  go_enter Tryd.func73, Tryd.ntmps73
  go_wp2_with fail
  go_loopg [0] (x + 1) (fun k p wx => k ≤ rs.length + 1 ∧ p = .pointer (padr nb (curO k)) ∧ Hid (un (dp rs) (rs.length + 1) x y ↔ (k ≠ 0 ∧ un (dp rs) (rs.length + 1) (k - 1) y)) ∧ wx = w)
  case atStart =>
    refine ⟨by omega, by simp [curO, padr], ?_, rfl⟩
    simp [Hid]
  case round =>
    obtain ⟨hk, rfl, hiff, rfl⟩ := hrel
    cases gk with
    | zero =>
      simp only [curO, if_true, padr]
      have HE : Hid (unB (dp rs) (rs.length + 1) x y = false) := by
        rw [Hid, Bool.eq_false_iff]
        intro g
        exact (hiff.out.1 (unB_iff.1 g)).1 rfl
      have hq := eql_nil wr (nb y)
      go_wp2
      go_ret
      exact ⟨by rw [HE.out]; rfl, rfl⟩
    | succ c =>
      have ec : curO (c + 1) = some c := by simp [curO]
      rw [ec]
      simp only [padr]
      by_cases hc : c = y
      · subst hc
        have HE : Hid (unB (dp rs) (rs.length + 1) x c = true) := unB_iff.2 (hiff.out.2 ⟨by omega, un_self (by omega)⟩)
        have hq := eql_same wr (nb c)
        have hq2 := neq_same wr (nb c)
        go_wp2
        go_ret
        exact ⟨by rw [HE.out]; rfl, rfl⟩
      · have hq := neq_other (w := wr) (hN.ne (show c < rs.length + 1 by omega) hy hc) (hN.blk c (by omega)) (hN.blk y (by omega))
        have l3 := (hN.links (show c < rs.length + 1 by omega)).1
        by_cases hc0 : c = 0
        · subst hc0
          have HN : Hid (un (dp rs) (rs.length + 1) x y ↔ (0 ≠ 0 ∧ un (dp rs) (rs.length + 1) (0 - 1) y)) :=
            ⟨fun g => absurd (hiff.out.1 g).2 (un_top (by omega)), fun g => absurd rfl g.1⟩
          simp only [upO, if_true] at l3
          go_wp2
          go_roundg 0
          case measure => omega
          case rel => exact ⟨by omega, rfl, HN, rfl⟩
        · have hp := (par_spec HD.out (show 1 ≤ c by omega) (show c < rs.length + 1 by omega)).1
          have eu : padr nb (upO rs c) = padr nb (curO (par (dp rs) c + 1)) := by
            unfold upO curO; rw [if_neg hc0, if_neg (by omega)]; rfl
          have HN : Hid (un (dp rs) (rs.length + 1) x y ↔ (par (dp rs) c + 1 ≠ 0 ∧ un (dp rs) (rs.length + 1) (par (dp rs) c + 1 - 1) y)) := by
            have h1 := un_par HD.out (show 1 ≤ c by omega) (show c < rs.length + 1 by omega) hy hc
            have h2 := hiff.out
            simp only [Nat.add_sub_cancel] at h2 ⊢
            exact ⟨fun g => ⟨by omega, h1.1 (h2.1 g).2⟩, fun g => h2.2 ⟨by omega, h1.2 g.2⟩⟩
          rw [eu] at l3
          clear eu
          go_wp2
          go_roundg (par (dp rs) c + 1)
          case measure => omega
          case rel => exact ⟨by omega, rfl, HN, rfl⟩
theorem undT_eq {rs : List RowD} {id under : Int} (h1 : hasB rs id = true) (h2 : hasB rs under = true) : undT rs id under = unB (dp rs) (rs.length + 1) (atN rs id + 1) (atN rs under + 1) := by
  rw [Bool.eq_iff_iff, unB_iff]; exact undT_un h1 h2
end Go.Proofs.YtefelnodahcolaaDoor
