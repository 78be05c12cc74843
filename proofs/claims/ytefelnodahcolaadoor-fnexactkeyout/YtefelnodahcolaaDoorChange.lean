/-
  Contracts of the program's isMade, (spot).ok, and of the methods ok and op of the three kinds of changes. Conditions: the table 'creators' holds what its initialiser lays; texts are not too long.
-/
import Derived.Test.YtefelnodahcolaaDoorTOp
import Derived.Test.YtefelnodahcolaaDoorTOkI
import Derived.Handy
namespace Go.Proofs.YtefelnodahcolaaDoor
open Go.ChangeShapes Go.WideShapes Go.ChangeAt Go.RowKit Go.Joins

theorem isMade_any (id : Int) (w : World) (ht : Tab w) :
    Calls Tryd.prog 95 #[.int .i64 id] w fun e w' => e = .returned (.bool (madeB id)) ∧ w = w' := by
  cases h1 : madeB id
  · have e1 : whoI id = 0 := by simp [whoI, h1]
    go_enter Tryd.func95, Tryd.ntmps95
    go_wp2_with fail
    refine (implRowWho_any _ _ ht).mono ?_
    rintro e w' ⟨rfl, rfl⟩
    rw [e1]
    generalize whoB id = b
    cases b
    · go_wp2
      go_ret
      exact ⟨rfl, rfl⟩
    · go_wp2
      go_ret
      exact ⟨rfl, rfl⟩
  · have e1 : whoI id ≠ 0 := by
      have := (madeB_iff _).1 h1
      simp only [whoI, h1, if_true]; omega
    have e2 : whoB id = true := by simp [whoB, h1]
    have e3 : (whoI id != 0) = true := by simpa using e1
    clear e1
    go_enter Tryd.func95, Tryd.ntmps95
    go_wp2_with fail
    refine (implRowWho_any _ _ ht).mono ?_
    rintro e w' ⟨rfl, rfl⟩
    rw [e2]
    have E3 := Lib.hid e3
    clear e3
    generalize whoI id = z at *
    go_wp2
    go_ret
    refine ⟨?_, rfl⟩
    show Ending.returned (.bool (z != 0)) = _
    rw [E3.out]
def spotB (up at' : Int) : Bool := whoB up && ((at' == 0) || madeB at')
theorem spotOk_any (up at' : Int) (w : World) (ht : Tab w) :
    Calls Tryd.prog 93 #[.agg #[.int .i64 up, .int .i64 at']] w (RetBelow (.bool (spotB up at')) w) := by
  have hb : Below w.heap.size w (w.alloc (.cells #[.int .i64 up, .int .i64 at'] 67)) := (Below.refl _ _).alloc (Nat.le_refl _) _
  have ht1 : Tab (w.alloc (.cells #[.int .i64 up, .int .i64 at'] 67)) := ht.below hb ht.pos
  cases h1 : whoB up
  · have HF : Hid (spotB up at' = false) := by simp [Hid, spotB, h1]
    go_enter Tryd.func93, Tryd.ntmps93
    go_wp2_with fail
    refine (implRowWho_any _ _ ht1).mono ?_
    rintro e w' ⟨rfl, rfl⟩
    rw [h1]
    generalize whoI up = z
    go_wp2
    go_ret
    exact ⟨by rw [HF.out]; rfl, hb⟩
  · by_cases h0 : at' = 0
    · have HF : Hid (spotB up at' = true) := by simp [Hid, spotB, h1, h0]
      subst h0
      go_enter Tryd.func93, Tryd.ntmps93
      go_wp2_with fail
      refine (implRowWho_any _ _ ht1).mono ?_
      rintro e w' ⟨rfl, rfl⟩
      rw [h1]
      generalize whoI up = z
      go_wp2
      go_ret
      exact ⟨by rw [HF.out]; rfl, hb⟩
    · have HF : Hid (spotB up at' = ((at' == 0) || madeB at')) := by simp [Hid, spotB, h1]
      go_enter Tryd.func93, Tryd.ntmps93
      go_wp2_with fail
      refine (implRowWho_any _ _ ht1).mono ?_
      rintro e w' ⟨rfl, rfl⟩
      rw [h1]
      generalize whoI up = z
      go_wp2_with fail
      refine (isMade_any _ _ ht1).mono ?_
      rintro e w' ⟨rfl, rfl⟩
      go_wp2
      go_ret
      exact ⟨by rw [HF.out]; rfl, hb⟩
/-! ### the three kinds -/
def makV (o : OpD) : Value := .agg #[.int .i64 o.id, .int .i64 o.up, .int .i64 o.at_, .string o.txt]
def worV (o : OpD) : Value := .agg #[.int .i64 o.id, .string o.txt]
def movV (o : OpD) : Value := .agg #[.int .i64 o.id, .int .i64 o.up, .int .i64 o.at_]
theorem makingOk_any (o : OpD) (w : World) (ht : Tab w) (hs : o.txt.size ≤ maxLen) :
    Calls Tryd.prog 96 #[.agg #[.int .i64 o.id, .int .i64 o.up, .int .i64 o.at_, .string o.txt]] w (RetBelow (.bool (madeB o.id && spotB o.up o.at_ && textB o.txt)) w) := by
  have hb : Below w.heap.size w (w.alloc (.cells #[.int .i64 o.id, .int .i64 o.up, .int .i64 o.at_, .string o.txt] 69)) := (Below.refl _ _).alloc (Nat.le_refl _) _
  have ht1 : Tab (w.alloc (.cells #[.int .i64 o.id, .int .i64 o.up, .int .i64 o.at_, .string o.txt] 69)) := ht.below hb ht.pos
  have hx : (w.alloc (.cells #[.int .i64 o.id, .int .i64 o.up, .int .i64 o.at_, .string o.txt] 69)).cell? ⟨w.heap.size, 3, none⟩ = some (.string o.txt) := by simp [go_sem]
  have hlt : w.heap.size < (w.alloc (.cells #[.int .i64 o.id, .int .i64 o.up, .int .i64 o.at_, .string o.txt] 69)).heap.size := by simp
  cases h1 : madeB o.id
  · go_enter Tryd.func96, Tryd.ntmps96
    go_wp2_with fail
    refine (isMade_any _ _ ht1).mono ?_
    rintro e w' ⟨rfl, rfl⟩
    rw [h1]
    go_wp2
    go_ret
    exact ⟨rfl, hb⟩
  · cases h2 : spotB o.up o.at_
    · go_enter Tryd.func96, Tryd.ntmps96
      go_wp2_with fail
      refine (isMade_any _ _ ht1).mono ?_
      rintro e w' ⟨rfl, rfl⟩
      rw [h1]
      go_wp2_with fail
      refine (spotOk_any _ _ _ ht1).mono ?_
      rintro e w2 ⟨rfl, hb2⟩
      rw [h2]
      go_wp2
      go_ret
      exact ⟨rfl, hb.trans (hb2.mono hb.size)⟩
    · go_enter Tryd.func96, Tryd.ntmps96
      go_wp2_with fail
      refine (isMade_any _ _ ht1).mono ?_
      rintro e w' ⟨rfl, rfl⟩
      rw [h1]
      go_wp2_with fail
      refine (spotOk_any _ _ _ ht1).mono ?_
      rintro e w2 ⟨rfl, hb2⟩
      rw [h2]
      have hx2 := (hb2.cell (p := ⟨w.heap.size, 3, none⟩) hlt).trans hx
      have hw2 := hb.trans (hb2.mono hb.size)
      clear hb2 hb ht1 hx hlt
      go_wp2_with fail
      refine (textOk_any _ _ hs).mono ?_
      rintro e w3 ⟨rfl, rfl⟩
      go_wp2
      go_ret
      exact ⟨rfl, hw2⟩
theorem wordingOk_any (o : OpD) (w : World) (ht : Tab w) (hs : o.txt.size ≤ maxLen) :
    Calls Tryd.prog 101 #[.agg #[.int .i64 o.id, .string o.txt]] w (RetBelow (.bool (madeB o.id && textB o.txt)) w) := by
  have hb : Below w.heap.size w (w.alloc (.cells #[.int .i64 o.id, .string o.txt] 75)) := (Below.refl _ _).alloc (Nat.le_refl _) _
  have ht1 : Tab (w.alloc (.cells #[.int .i64 o.id, .string o.txt] 75)) := ht.below hb ht.pos
  cases h1 : madeB o.id
  · go_enter Tryd.func101, Tryd.ntmps101
    go_wp2_with fail
    refine (isMade_any _ _ ht1).mono ?_
    rintro e w' ⟨rfl, rfl⟩
    rw [h1]
    go_wp2
    go_ret
    exact ⟨rfl, hb⟩
  · go_enter Tryd.func101, Tryd.ntmps101
    go_wp2_with fail
    refine (isMade_any _ _ ht1).mono ?_
    rintro e w' ⟨rfl, rfl⟩
    rw [h1]
    go_wp2_with fail
    refine (textOk_any _ _ hs).mono ?_
    rintro e w3 ⟨rfl, rfl⟩
    go_wp2
    go_ret
    exact ⟨rfl, hb⟩
theorem movingOk_any (o : OpD) (w : World) (ht : Tab w) :
    Calls Tryd.prog 99 #[.agg #[.int .i64 o.id, .int .i64 o.up, .int .i64 o.at_]] w (RetBelow (.bool (madeB o.id && spotB o.up o.at_)) w) := by
  have hb : Below w.heap.size w (w.alloc (.cells #[.int .i64 o.id, .int .i64 o.up, .int .i64 o.at_] 72)) := (Below.refl _ _).alloc (Nat.le_refl _) _
  have ht1 : Tab (w.alloc (.cells #[.int .i64 o.id, .int .i64 o.up, .int .i64 o.at_] 72)) := ht.below hb ht.pos
  cases h1 : madeB o.id
  · go_enter Tryd.func99, Tryd.ntmps99
    go_wp2_with fail
    refine (isMade_any _ _ ht1).mono ?_
    rintro e w' ⟨rfl, rfl⟩
    rw [h1]
    go_wp2
    go_ret
    exact ⟨rfl, hb⟩
  · go_enter Tryd.func99, Tryd.ntmps99
    go_wp2_with fail
    refine (isMade_any _ _ ht1).mono ?_
    rintro e w' ⟨rfl, rfl⟩
    rw [h1]
    go_wp2_with fail
    refine (spotOk_any _ _ _ ht1).mono ?_
    rintro e w2 ⟨rfl, hb2⟩
    go_wp2
    go_ret
    exact ⟨rfl, hb.trans (hb2.mono hb.size)⟩
theorem makingOp_any (o : OpD) (w : World) :
    Calls Tryd.prog 97 #[.agg #[.int .i64 o.id, .int .i64 o.up, .int .i64 o.at_, .string o.txt]] w (RetBelow (.agg #[.int .i64 1, .int .i64 o.id, .int .i64 o.up, .int .i64 o.at_, .string o.txt]) w) := by
  go_enter Tryd.func97, Tryd.ntmps97
  go_wp2
  go_returns
  exact ⟨rfl, by go_grown⟩
theorem wordingOp_any (o : OpD) (w : World) :
    Calls Tryd.prog 47 #[.agg #[.int .i64 o.id, .string o.txt]] w (RetBelow (.agg #[.int .i64 2, .int .i64 o.id, .int .i64 0, .int .i64 0, .string o.txt]) w) := by
  go_enter Tryd.func47, Tryd.ntmps47
  go_wp2
  go_returns
  exact ⟨rfl, by go_grown⟩
theorem movingOp_any (o : OpD) (w : World) :
    Calls Tryd.prog 46 #[.agg #[.int .i64 o.id, .int .i64 o.up, .int .i64 o.at_]] w (RetBelow (.agg #[.int .i64 3, .int .i64 o.id, .int .i64 o.up, .int .i64 o.at_, .string ⟨#[]⟩]) w) := by
  go_enter Tryd.func46, Tryd.ntmps46
  go_wp2
  go_returns
  exact ⟨rfl, by go_grown⟩
end Go.Proofs.YtefelnodahcolaaDoor
