/-
  Contracts of the model's TreeUp, TreeKids, TreeUnder, TreeAhead. Conditions: the rows lie in memory as a slice of rows.
-/
import Derived.Test.YtefelnodahcolaaDoorTOkS
namespace Go.Proofs.YtefelnodahcolaaDoor
open Go.ChangeShapes Go.WideShapes Go.ChangeAt Go.RowKit Go.Joins

def hasB (rs : List RowD) (id : Int) : Bool := treeB rs && decide (atN rs id < rs.length)
def upI (rs : List RowD) (id : Int) : Int := if hasB rs id then upAt rs (atN rs id) else 0
def ahB (rs : List RowD) (id : Int) : Bool := hasB rs id && !rootB id
def ahI (rs : List RowD) (id : Int) : Int := if ahB rs id then ahAt rs (atN rs id) else 0
def kidsT (rs : List RowD) (id : Int) : List Int := if treeB rs then kidsL rs id else []
def undT (rs : List RowD) (id under : Int) : Bool := treeB rs && undB rs id under
theorem treeP_small {rs : List RowD} (h : treeB rs = true) : SmallDep rs := fun i hi => by have := rok_dep ((treeP_of h).rok i hi); omega
theorem hasB_not {rs : List RowD} {id : Int} (h : treeB rs = false) : hasB rs id = false ∧ upI rs id = 0 ∧ ahB rs id = false ∧ ahI rs id = 0 := by
  have h1 : hasB rs id = false := by simp [hasB, h]
  exact ⟨h1, by simp [upI, h1], by simp [ahB, h1], by simp [ahI, ahB, h1]⟩
theorem hasB_miss {rs : List RowD} {id : Int} (h : ¬ atN rs id < rs.length) : hasB rs id = false ∧ upI rs id = 0 ∧ ahB rs id = false ∧ ahI rs id = 0 := by
  have h1 : hasB rs id = false := by simp [hasB, h]
  exact ⟨h1, by simp [upI, h1], by simp [ahB, h1], by simp [ahI, ahB, h1]⟩
theorem hasB_yes {rs : List RowD} {id : Int} (h : treeB rs = true) (h1 : atN rs id < rs.length) : hasB rs id = true ∧ upI rs id = upAt rs (atN rs id) := by
  have h2 : hasB rs id = true := by simp [hasB, h, h1]
  exact ⟨h2, by simp [upI, h2]⟩
theorem ahB_root {rs : List RowD} {id : Int} (h : rootB id = true) : ahB rs id = false ∧ ahI rs id = 0 := by
  have h1 : ahB rs id = false := by simp [ahB, h]
  exact ⟨h1, by simp [ahI, h1]⟩
theorem ahB_yes {rs : List RowD} {id : Int} (h : hasB rs id = true) (h1 : rootB id = false) : ahB rs id = true ∧ ahI rs id = ahAt rs (atN rs id) := by
  have h2 : ahB rs id = true := by simp [ahB, h, h1]
  exact ⟨h2, by simp [ahI, h2]⟩
theorem atI_cases (rs : List RowD) (id : Int) : (atN rs id < rs.length ∧ atI rs id = (atN rs id : Int)) ∨ (¬ atN rs id < rs.length ∧ atI rs id = -1) := by
  by_cases h : atN rs id < rs.length
  · exact .inl ⟨h, atI_pos h⟩
  · exact .inr ⟨h, atI_neg (by have := atN_le rs id; omega)⟩

theorem specTreeUp_any (B : Nat) (a : Option Addr) (cap : Nat) (rs : List RowD) (id : Int) (w : World) (hB : B ≤ w.heap.size) (h : RowsAt B w a rs) (hf : Fit rs) :
    Calls Tryd.prog 28 #[.slice a rs.length cap, .int .i64 id] w (RetBelow (.tuple #[.int .i64 (upI rs id), .bool (hasB rs id)]) w) := by
  have hl := hf.1
  rcases atI_cases rs id with ⟨h1, h2⟩ | ⟨h1, h2⟩
  · have HA := Lib.hid h2
    clear h2
    cases ht : treeB rs
    · obtain ⟨e1, e2, _⟩ := hasB_not (id := id) ht
      rw [e1, e2]; clear e1 e2
      go_enter Tryd.func28, Tryd.ntmps28
      go_wp2_with fail
      refine (l2At_any B _ _ _ _ _ h hf).mono ?_
      rintro e w' ⟨rfl, rfl⟩
      rw [HA.out]
      go_wp2_with fail
      refine (specTreeOk_any B _ _ _ _ hB h hf).mono ?_
      rintro e w1 ⟨rfl, hb⟩
      go_wp2
      go_ret2
      exact ⟨rfl, hb⟩
    · obtain ⟨e1, e2⟩ := hasB_yes ht h1
      rw [e1, e2]; clear e1 e2
      generalize atN rs id = i at *
      have i0 : ¬ (i : Int) < 0 := by omega
      go_enter Tryd.func28, Tryd.ntmps28
      go_wp2_with fail
      refine (l2At_any B _ _ _ _ _ h hf).mono ?_
      rintro e w' ⟨rfl, rfl⟩
      rw [HA.out]
      go_wp2_with fail
      refine (specTreeOk_any B _ _ _ _ hB h hf).mono ?_
      rintro e w1 ⟨rfl, hb⟩
      go_wp2_with fail
      refine (l2Up_any B _ _ _ _ _ (Nat.le_trans hB hb.size) (h.below (hb.mono hB)) hf h1).mono ?_
      rintro e w2 ⟨rfl, hb2⟩
      go_wp2
      go_ret2
      exact ⟨rfl, hb.trans (hb2.mono hb.size)⟩
  · have HA := Lib.hid h2
    clear h2
    obtain ⟨e1, e2, _⟩ := hasB_miss h1
    rw [e1, e2]; clear e1 e2
    cases ht : treeB rs
    · go_enter Tryd.func28, Tryd.ntmps28
      go_wp2_with fail
      refine (l2At_any B _ _ _ _ _ h hf).mono ?_
      rintro e w' ⟨rfl, rfl⟩
      rw [HA.out]
      go_wp2_with fail
      refine (specTreeOk_any B _ _ _ _ hB h hf).mono ?_
      rintro e w1 ⟨rfl, hb⟩
      go_wp2
      go_ret2
      exact ⟨rfl, hb⟩
    · go_enter Tryd.func28, Tryd.ntmps28
      go_wp2_with fail
      refine (l2At_any B _ _ _ _ _ h hf).mono ?_
      rintro e w' ⟨rfl, rfl⟩
      rw [HA.out]
      go_wp2_with fail
      refine (specTreeOk_any B _ _ _ _ hB h hf).mono ?_
      rintro e w1 ⟨rfl, hb⟩
      go_wp2
      go_ret2
      exact ⟨rfl, hb⟩

theorem specTreeAhead_any (B : Nat) (a : Option Addr) (cap : Nat) (rs : List RowD) (id : Int) (w : World) (hB : B ≤ w.heap.size) (h : RowsAt B w a rs) (hf : Fit rs) :
    Calls Tryd.prog 22 #[.slice a rs.length cap, .int .i64 id] w (RetBelow (.tuple #[.int .i64 (ahI rs id), .bool (ahB rs id)]) w) := by
  have hl := hf.1
  rcases atI_cases rs id with ⟨h1, h2⟩ | ⟨h1, h2⟩
  · have HA := Lib.hid h2
    clear h2
    cases ht : treeB rs
    · obtain ⟨_, _, e1, e2⟩ := hasB_not (id := id) ht
      rw [e1, e2]; clear e1 e2
      go_enter Tryd.func22, Tryd.ntmps22
      go_wp2_with fail
      refine (l2At_any B _ _ _ _ _ h hf).mono ?_
      rintro e w' ⟨rfl, rfl⟩
      rw [HA.out]
      go_wp2_with fail
      refine (specTreeOk_any B _ _ _ _ hB h hf).mono ?_
      rintro e w1 ⟨rfl, hb⟩
      go_wp2
      go_ret2
      exact ⟨rfl, hb⟩
    · obtain ⟨e1, _⟩ := hasB_yes ht h1
      have i0 : ¬ ((atN rs id : Nat) : Int) < 0 := by omega
      cases hr : rootB id
      · obtain ⟨e3, e4⟩ := ahB_yes e1 hr
        rw [e3, e4]; clear e1 e3 e4
        generalize atN rs id = i at *
        go_enter Tryd.func22, Tryd.ntmps22
        go_wp2_with fail
        refine (l2At_any B _ _ _ _ _ h hf).mono ?_
        rintro e w' ⟨rfl, rfl⟩
        rw [HA.out]
        go_wp2_with fail
        refine (specTreeOk_any B _ _ _ _ hB h hf).mono ?_
        rintro e w1 ⟨rfl, hb⟩
        go_wp2_with fail
        refine (l1Root_any _ _).mono ?_
        rintro e w' ⟨rfl, rfl⟩
        go_wp2_with fail
        refine (l2Ahead_any B _ _ _ _ _ (Nat.le_trans hB hb.size) (h.below (hb.mono hB)) hf h1).mono ?_
        rintro e w2 ⟨rfl, hb2⟩
        go_wp2
        go_ret2
        exact ⟨rfl, hb.trans (hb2.mono hb.size)⟩
      · obtain ⟨e3, e4⟩ := ahB_root (rs := rs) hr
        rw [e3, e4]; clear e1 e3 e4
        generalize atN rs id = i at *
        go_enter Tryd.func22, Tryd.ntmps22
        go_wp2_with fail
        refine (l2At_any B _ _ _ _ _ h hf).mono ?_
        rintro e w' ⟨rfl, rfl⟩
        rw [HA.out]
        go_wp2_with fail
        refine (specTreeOk_any B _ _ _ _ hB h hf).mono ?_
        rintro e w1 ⟨rfl, hb⟩
        go_wp2_with fail
        refine (l1Root_any _ _).mono ?_
        rintro e w' ⟨rfl, rfl⟩
        go_wp2
        go_ret2
        exact ⟨rfl, hb⟩
  · have HA := Lib.hid h2
    clear h2
    obtain ⟨_, _, e1, e2⟩ := hasB_miss h1
    rw [e1, e2]; clear e1 e2
    cases ht : treeB rs
    · go_enter Tryd.func22, Tryd.ntmps22
      go_wp2_with fail
      refine (l2At_any B _ _ _ _ _ h hf).mono ?_
      rintro e w' ⟨rfl, rfl⟩
      rw [HA.out]
      go_wp2_with fail
      refine (specTreeOk_any B _ _ _ _ hB h hf).mono ?_
      rintro e w1 ⟨rfl, hb⟩
      go_wp2
      go_ret2
      exact ⟨rfl, hb⟩
    · go_enter Tryd.func22, Tryd.ntmps22
      go_wp2_with fail
      refine (l2At_any B _ _ _ _ _ h hf).mono ?_
      rintro e w' ⟨rfl, rfl⟩
      rw [HA.out]
      go_wp2_with fail
      refine (specTreeOk_any B _ _ _ _ hB h hf).mono ?_
      rintro e w1 ⟨rfl, hb⟩
      go_wp2
      go_ret2
      exact ⟨rfl, hb⟩

theorem own_mono {w : World} {base base' : Nat} {e : TypeId} {size : Nat} {v : Value} {n : Nat} {xs : List Value} (h : w.ownsRow base e size v n xs) (hb : base' ≤ base) : w.ownsRow base' e size v n xs := by
  obtain ⟨h1, h2⟩ := h
  refine ⟨h1, ?_⟩
  rcases h2 with h2 | ⟨g, cap, cur, hv, hg, hh⟩
  · exact .inl h2
  · exact .inr ⟨g, cap, cur, hv, by omega, hh⟩
end Go.Proofs.YtefelnodahcolaaDoor
