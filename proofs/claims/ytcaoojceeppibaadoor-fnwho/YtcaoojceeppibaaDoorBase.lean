/-
  Contracts of the functions of chapter 1, the program's and the model's: each returns what the plain functions below say, for every argument, and leaves the world as it was. Conditions: the program's table 'creators' holds what its initialiser lays.
-/
import Derived.Test.YtcaoojceeppibaaDoorFrame
import Derived.Lib.LaidTab
import Derived.LaidMore
import Derived.IntWalk
import Derived.Lib.Hide
namespace Go.Proofs.YtcaoojceeppibaaDoor
open Go.ChangeShapes Go.WideShapes Go.ChangeAt Go.RowKit

def tabZ : List Int := [-1, 0, 0, 0, -1, -1, -1, -1, -1, -1, -1, 1, 1, 1, 1, 1, 1, -1, -1, -1, -1, 2, 2, 2, 2, 2, 2, -1, -1, -1, -1, 3, 3, 3, 3, 3, 3]
def madeB (id : Int) : Bool := decide ((11 ≤ id ∧ id ≤ 16) ∨ (21 ≤ id ∧ id ≤ 26) ∨ (31 ≤ id ∧ id ≤ 36))
def rootB (id : Int) : Bool := decide (1 ≤ id ∧ id ≤ 3)
def whoB (id : Int) : Bool := rootB id || madeB id
def whoI (id : Int) : Int := if madeB id then id / 10 else 0

theorem madeB_iff (id : Int) : madeB id = true ↔ ((11 ≤ id ∧ id ≤ 16) ∨ (21 ≤ id ∧ id ≤ 26) ∨ (31 ≤ id ∧ id ≤ 36)) := by simp [madeB]
theorem rootB_iff (id : Int) : rootB id = true ↔ (1 ≤ id ∧ id ≤ 3) := by simp [rootB]

theorem tab_all : ∀ i : Fin 37, ((tabZ.getD i.val 0 == -1) = !whoB (i.val : Int)) ∧ (whoB (i.val : Int) = true → tabZ.getD i.val 0 = whoI (i.val : Int)) := by decide +kernel

/-- The table's cells, as the walks read them. -/
def Tab (w : World) : Prop := ∀ i, i < 37 → w.cell? ⟨0, i, none⟩ = some (.int .i64 (tabZ.getD i 0))
theorem Tab.below {w w' : World} (h : Tab w) {B : Nat} (hb : Below B w w') (hB : 0 < B) : Tab w' := fun i hi => by
  rw [hb.cell (p := ⟨0, i, none⟩) hB]; exact h i hi

def tabName : String := Rows.fnMadeWhoRow.named.headD ""
theorem gTab : Tryd.prog.globalNamed tabName = some 0 := by kernel_rfl
theorem gTabType : (Tryd.prog.globals[0]?).map (·.type) = some 64 := by kernel_rfl
theorem cells44 : Tryd.prog.cellsOf 64 = 37 := by kernel_rfl
theorem cells3 : Tryd.prog.cellsOf 3 = 1 := by kernel_rfl
theorem laidOut : laidOutB Tryd.prog = true := by kernel_rfl
theorem tab_of_laid {W : World} (h : laidMetH Tryd.prog Rows.fnMadeWhoRow.laid W) : Tab W := by
  have h' : laidMet Tryd.prog ((tabName, Lib.tabData .i64 tabZ) :: []) W := by
    rw [MakeChecks.laidMetH_plain _ _ _ (by kernel_rfl)] at h
    exact h
  have hT := Lib.tabIs_of_head gTab gTabType Tryd.underlying64 Tryd.underlying3 cells3 cells44 h'
  exact fun i hi => hT.cell gTab i hi
theorem i64_of_wf' {n : Int} (h : (Lit.int .i64 n).wf = true) : -9223372036854775808 ≤ n ∧ n ≤ 9223372036854775807 := by
  simpa [Lit.wf, IntKind.min, IntKind.max, IntKind.signed, IntKind.bits] using h

/-! ### l6In, l1Root, l1Made -/
theorem l6In_yes (n lo hi : Int) (w : World) (h1 : lo ≤ n) (h2 : n ≤ hi) :
    Calls Tryd.prog 48 #[.int .i64 n, .int .i64 lo, .int .i64 hi] w fun e w' => e = .returned (.bool true) ∧ w = w' := by
  go_enter Tryd.func48, Tryd.ntmps48
  go_wp2
  go_ret
  exact ⟨rfl, rfl⟩
theorem l6In_no (n lo hi : Int) (w : World) (h : ¬ (lo ≤ n ∧ n ≤ hi)) :
    Calls Tryd.prog 48 #[.int .i64 n, .int .i64 lo, .int .i64 hi] w fun e w' => e = .returned (.bool false) ∧ w = w' := by
  by_cases h1 : lo ≤ n
  · have h2 : ¬ n ≤ hi := fun h2 => h ⟨h1, h2⟩
    clear h
    go_enter Tryd.func48, Tryd.ntmps48
    go_wp2
    go_ret
    exact ⟨rfl, rfl⟩
  · clear h
    go_enter Tryd.func48, Tryd.ntmps48
    go_wp2
    go_ret
    exact ⟨rfl, rfl⟩
def inB (n lo hi : Int) : Bool := decide (lo ≤ n ∧ n ≤ hi)
theorem inB_iff (n lo hi : Int) : inB n lo hi = true ↔ (lo ≤ n ∧ n ≤ hi) := by simp [inB]
theorem l6In_any (n lo hi : Int) (w : World) :
    Calls Tryd.prog 48 #[.int .i64 n, .int .i64 lo, .int .i64 hi] w fun e w' => e = .returned (.bool (inB n lo hi)) ∧ w = w' := by
  by_cases h : lo ≤ n ∧ n ≤ hi
  · rw [(inB_iff n lo hi).2 h]; exact l6In_yes n lo hi w h.1 h.2
  · rw [Bool.eq_false_iff.2 (fun e => h ((inB_iff n lo hi).1 e))]; exact l6In_no n lo hi w h
theorem rootB_inB (id : Int) : rootB id = inB id 1 3 := rfl
theorem l1Root_any (id : Int) (w : World) :
    Calls Tryd.prog 49 #[.int .i64 id] w fun e w' => e = .returned (.bool (rootB id)) ∧ w = w' := by
  go_enter Tryd.func49, Tryd.ntmps49
  go_wp2_with fail
  refine (l6In_any _ _ _ _).mono ?_
  rintro e w' ⟨rfl, rfl⟩
  go_wp2
  go_ret
  exact ⟨rfl, rfl⟩
theorem made_inB (id : Int) : madeB id = (inB (id.tdiv 10) 1 3 && inB (id.tmod 10) 1 6) := by
  rw [Bool.eq_iff_iff, Bool.and_eq_true, madeB_iff, inB_iff, inB_iff]
  by_cases h : 0 ≤ id
  · rw [Int.tdiv_eq_ediv_of_nonneg h, Int.tmod_eq_emod_of_nonneg h]; omega
  · have h1 : id.tdiv 10 ≤ 0 := by
      have e := Int.neg_tdiv (a := -id) (b := 10)
      have h3 : 0 ≤ (-id).tdiv 10 := Int.tdiv_nonneg (by omega) (by omega)
      rw [Int.neg_neg] at e
      omega
    omega
/-- The range of a Go int, behind a name. -/
def I64 (n : Int) : Prop := -9223372036854775808 ≤ n ∧ n ≤ 9223372036854775807
theorem i64_of_wf {n : Int} (h : (Lit.int .i64 n).wf = true) : I64 n := i64_of_wf' h
theorem tdiv10_bd (id : Int) (h : I64 id) : -1000000000000000000 ≤ id.tdiv 10 ∧ id.tdiv 10 ≤ 1000000000000000000 := by
  obtain ⟨h1, h2⟩ := h
  by_cases h0 : 0 ≤ id
  · rw [Int.tdiv_eq_ediv_of_nonneg h0]; omega
  · have e := Int.neg_tdiv (a := -id) (b := 10)
    have e2 : (-id).tdiv 10 = (-id) / 10 := Int.tdiv_eq_ediv_of_nonneg (by omega)
    rw [Int.neg_neg] at e
    omega
theorem l1Made_any (id : Int) (w : World) (hI : I64 id) :
    Calls Tryd.prog 50 #[.int .i64 id] w fun e w' => e = .returned (.bool (madeB id)) ∧ w = w' := by
  rw [made_inB]
  obtain ⟨q1, q2⟩ := tdiv10_bd id hI
  cases h1 : inB (id.tdiv 10) 1 3
  · go_enter Tryd.func50, Tryd.ntmps50
    go_wp2_with fail
    refine (l6In_any _ _ _ _).mono ?_
    rintro e w' ⟨rfl, rfl⟩
    go_wp2
    go_ret
    exact ⟨rfl, rfl⟩
  · go_enter Tryd.func50, Tryd.ntmps50
    go_wp2_with fail
    refine (l6In_any _ _ _ _).mono ?_
    rintro e w' ⟨rfl, rfl⟩
    go_wp2_with fail
    refine (l6In_any _ _ _ _).mono ?_
    rintro e w' ⟨rfl, rfl⟩
    go_wp2
    go_ret
    exact ⟨rfl, rfl⟩
/-! ### RowMade -/
def madeI (who n : Int) : Int := if inB who 1 3 && inB n 1 6 then 10 * who + n else 0
theorem specRowMade_any (who n : Int) (w : World) :
    Calls Tryd.prog 16 #[.int .i64 who, .int .i64 n] w fun e w' => e = .returned (.int .i64 (madeI who n)) ∧ w = w' := by
  cases h1 : inB who 1 3
  · have hm : madeI who n = 0 := by simp [madeI, h1]
    rw [hm]; clear hm
    go_enter Tryd.func16, Tryd.ntmps16
    go_wp2_with fail
    refine (l6In_any _ _ _ _).mono ?_
    rintro e w' ⟨rfl, rfl⟩
    go_wp2
    go_ret
    exact ⟨rfl, rfl⟩
  · cases h2 : inB n 1 6
    · have hm : madeI who n = 0 := by simp [madeI, h2]
      rw [hm]; clear hm
      go_enter Tryd.func16, Tryd.ntmps16
      go_wp2_with fail
      refine (l6In_any _ _ _ _).mono ?_
      rintro e w' ⟨rfl, rfl⟩
      go_wp2_with fail
      refine (l6In_any _ _ _ _).mono ?_
      rintro e w' ⟨rfl, rfl⟩
      go_wp2
      go_ret
      exact ⟨rfl, rfl⟩
    · have hm : madeI who n = 10 * who + n := by simp [madeI, h1, h2]
      rw [hm]; clear hm
      obtain ⟨a1, a2⟩ := (inB_iff _ _ _).1 h1
      obtain ⟨b1, b2⟩ := (inB_iff _ _ _).1 h2
      go_enter Tryd.func16, Tryd.ntmps16
      go_wp2_with fail
      refine (l6In_any _ _ _ _).mono ?_
      rintro e w' ⟨rfl, rfl⟩
      go_wp2_with fail
      refine (l6In_any _ _ _ _).mono ?_
      rintro e w' ⟨rfl, rfl⟩
      go_wp2
      go_ret
      exact ⟨rfl, rfl⟩
theorem isClient_any (who : Int) (w : World) :
    Calls Tryd.prog 47 #[.int .i64 who] w fun e w' => e = .returned (.bool (inB who 1 3)) ∧ w = w' := by
  by_cases h1 : 1 ≤ who
  · by_cases h2 : who ≤ 3
    · rw [(inB_iff who 1 3).2 ⟨h1, h2⟩]
      go_enter Tryd.func47, Tryd.ntmps47
      go_wp2
      go_ret
      exact ⟨rfl, rfl⟩
    · have hm : inB who 1 3 = false := by simp [inB, h2]
      rw [hm]; clear hm
      go_enter Tryd.func47, Tryd.ntmps47
      go_wp2
      go_ret
      exact ⟨rfl, rfl⟩
  · have hm : inB who 1 3 = false := by simp [inB, h1]
    rw [hm]; clear hm
    go_enter Tryd.func47, Tryd.ntmps47
    go_wp2
    go_ret
    exact ⟨rfl, rfl⟩
theorem implRowMade_any (who n : Int) (w : World) :
    Calls Tryd.prog 15 #[.int .i64 who, .int .i64 n] w fun e w' => e = .returned (.int .i64 (madeI who n)) ∧ w = w' := by
  cases hc : inB who 1 3
  · have hm : madeI who n = 0 := by simp [madeI, hc]
    rw [hm]; clear hm
    go_enter Tryd.func15, Tryd.ntmps15
    go_wp2_with fail
    refine (isClient_any _ _).mono ?_
    rintro e w' ⟨rfl, rfl⟩
    rw [hc]
    go_wp2
    go_ret
    exact ⟨rfl, rfl⟩
  · have hb := (inB_iff who 1 3).1 hc
    obtain ⟨h1, h2⟩ := hb
    by_cases h3 : 1 ≤ n
    · by_cases h4 : n ≤ 6
      · have hm : madeI who n = 10 * who + n := by simp [madeI, inB, h1, h2, h3, h4]
        rw [hm]; clear hm
        go_enter Tryd.func15, Tryd.ntmps15
        go_wp2_with fail
        refine (isClient_any _ _).mono ?_
        rintro e w' ⟨rfl, rfl⟩
        rw [hc]
        go_wp2
        go_ret
        exact ⟨rfl, rfl⟩
      · have hm : madeI who n = 0 := by simp [madeI, inB, h4]
        rw [hm]; clear hm
        go_enter Tryd.func15, Tryd.ntmps15
        go_wp2_with fail
        refine (isClient_any _ _).mono ?_
        rintro e w' ⟨rfl, rfl⟩
        rw [hc]
        go_wp2
        go_ret
        exact ⟨rfl, rfl⟩
    · have hm : madeI who n = 0 := by simp [madeI, inB, h3]
      rw [hm]; clear hm
      go_enter Tryd.func15, Tryd.ntmps15
      go_wp2_with fail
      refine (isClient_any _ _).mono ?_
      rintro e w' ⟨rfl, rfl⟩
      rw [hc]
      go_wp2
      go_ret
      exact ⟨rfl, rfl⟩
/-! ### RowWho -/
theorem specRowWho_any (id : Int) (w : World) (hI : I64 id) :
    Calls Tryd.prog 19 #[.int .i64 id] w fun e w' => e = .returned (.tuple #[.int .i64 (whoI id), .bool (whoB id)]) ∧ w = w' := by
  cases h1 : rootB id
  · cases h2 : madeB id
    · have hi : whoI id = 0 := by simp [whoI, h2]
      have hb : whoB id = false := by simp [whoB, h1, h2]
      rw [hi, hb]; clear hi hb
      go_enter Tryd.func19, Tryd.ntmps19
      go_wp2_with fail
      refine (l1Root_any _ _).mono ?_
      rintro e w' ⟨rfl, rfl⟩
      go_wp2_with fail
      refine (l1Made_any _ _ hI).mono ?_
      rintro e w' ⟨rfl, rfl⟩
      go_wp2
      go_ret2
      exact ⟨rfl, rfl⟩
    · have hi : whoI id = id / 10 := by simp [whoI, h2]
      have hb : whoB id = true := by simp [whoB, h2]
      rw [hi, hb]; clear hi hb
      have b1 : 0 ≤ id := by have := (madeB_iff _).1 h2; omega
      have b2 : id ≤ 36 := by have := (madeB_iff _).1 h2; omega
      go_enter Tryd.func19, Tryd.ntmps19
      go_wp2_with fail
      refine (l1Root_any _ _).mono ?_
      rintro e w' ⟨rfl, rfl⟩
      go_wp2_with fail
      refine (l1Made_any _ _ hI).mono ?_
      rintro e w' ⟨rfl, rfl⟩
      go_wp2
      go_ret2
      exact ⟨rfl, rfl⟩
  · have h2 : madeB id = false := by
      have := (rootB_iff _).1 h1
      rw [Bool.eq_false_iff]; intro h; have := (madeB_iff _).1 h; omega
    have hi : whoI id = 0 := by simp [whoI, h2]
    have hb : whoB id = true := by simp [whoB, h1]
    rw [hi, hb]; clear hi hb h2
    go_enter Tryd.func19, Tryd.ntmps19
    go_wp2_with fail
    refine (l1Root_any _ _).mono ?_
    rintro e w' ⟨rfl, rfl⟩
    go_wp2
    go_ret2
    exact ⟨rfl, rfl⟩
theorem who_out (id : Int) (h : id < 0 ∨ 37 ≤ id) : whoI id = 0 ∧ whoB id = false := by
  have h2 : madeB id = false := by rw [Bool.eq_false_iff]; intro e; have := (madeB_iff _).1 e; omega
  have h1 : rootB id = false := by rw [Bool.eq_false_iff]; intro e; have := (rootB_iff _).1 e; omega
  exact ⟨by simp [whoI, h2], by simp [whoB, h1, h2]⟩
theorem who_no (id : Int) (h : whoB id = false) : whoI id = 0 := by
  have : madeB id = false := by simp [whoB] at h; exact h.2
  simp [whoI, this]
theorem implRowWho_any (id : Int) (w : World) (ht : Tab w) :
    Calls Tryd.prog 17 #[.int .i64 id] w fun e w' => e = .returned (.tuple #[.int .i64 (whoI id), .bool (whoB id)]) ∧ w = w' := by
  by_cases h1 : 0 ≤ id
  · by_cases h2 : id < 37
    · obtain ⟨n, rfl⟩ := Int.eq_ofNat_of_zero_le h1
      have hn : n < 37 := by omega
      obtain ⟨t1, t2⟩ := tab_all ⟨n, hn⟩
      have hc := ht n hn
      simp only at t1 t2
      clear ht
      generalize tabZ.getD n 0 = z at *
      cases hb : whoB (n : Int)
      · rw [hb] at t1
        have hz : (z == -1) = true := by simpa using t1
        rw [who_no _ hb]
        clear t1 t2 hb
        go_enter Tryd.func17, Tryd.ntmps17
        go_wp2
        go_ret2
        exact ⟨rfl, rfl⟩
      · rw [hb] at t1
        have hz : (z == -1) = false := by simpa using t1
        rw [← t2 hb]
        clear t1 t2 hb
        go_enter Tryd.func17, Tryd.ntmps17
        go_wp2
        go_ret2
        exact ⟨rfl, rfl⟩
    · obtain ⟨e1, e2⟩ := who_out id (by omega)
      rw [e1, e2]; clear e1 e2 ht
      go_enter Tryd.func17, Tryd.ntmps17
      go_wp2
      go_ret2
      exact ⟨rfl, rfl⟩
  · obtain ⟨e1, e2⟩ := who_out id (by omega)
    rw [e1, e2]; clear e1 e2 ht
    go_enter Tryd.func17, Tryd.ntmps17
    go_wp2
    go_ret2
    exact ⟨rfl, rfl⟩
end Go.Proofs.YtcaoojceeppibaaDoor
