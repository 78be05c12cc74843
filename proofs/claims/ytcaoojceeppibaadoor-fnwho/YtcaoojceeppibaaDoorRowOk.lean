/-
  Contracts of RowOk, of the program and of the model, and of what they call on texts: each returns what the plain functions below say. Conditions: the program's table 'creators' holds what its initialiser lays.
-/
import Derived.Test.YtcaoojceeppibaaDoorBase
import Derived.Lib.SmallJoins
namespace Go.Proofs.YtcaoojceeppibaaDoor
open Go.ChangeShapes Go.WideShapes Go.ChangeAt Go.RowKit Go.Joins

def okC (c : UInt8) : Bool := decide (97 ≤ (c.toNat : Int) ∧ (c.toNat : Int) ≤ 100)
def textB (s : ByteArray) : Bool := s.data.toList.all okC && decide ((s.size : Int) ≤ 4)
theorem take_snoc (s : ByteArray) (k : Nat) (h : k < s.size) : s.data.toList.take (k + 1) = s.data.toList.take k ++ [s[k]] := by
  rw [List.take_succ_eq_append_getElem (by simpa using h)]; rfl
theorem allTake_succ (s : ByteArray) (k : Nat) (h : k < s.size) (ha : (s.data.toList.take k).all okC = true) (hc : 97 ≤ (s[k].toNat : Int)) (hd : (s[k].toNat : Int) ≤ 100) :
    (s.data.toList.take (k + 1)).all okC = true := by
  rw [take_snoc s k h, List.all_append, ha]
  simp [okC, hc, hd]
theorem textB_bad (s : ByteArray) (k : Nat) (h : k < s.size) (hc : ¬ (97 ≤ (s[k].toNat : Int) ∧ (s[k].toNat : Int) ≤ 100)) : textB s = false := by
  rw [Bool.eq_false_iff]; intro e
  simp only [textB, Bool.and_eq_true, List.all_eq_true] at e
  have := e.1 s[k] (by show s.data[k] ∈ _; simp)
  exact hc (by simpa [okC] using this)
theorem textB_all (s : ByteArray) (k : Nat) (h : s.size ≤ k) (ha : (s.data.toList.take k).all okC = true) : textB s = decide ((s.size : Int) ≤ 4) := by
  rw [List.take_of_length_le (by simpa using h)] at ha
  simp [textB, ha]
theorem textB_long (s : ByteArray) (h : ¬ s.size ≤ 4) : textB s = false := by
  have : ¬ (s.size : Int) ≤ 4 := by omega
  simp [textB, this]

theorem l1Text_any (s : ByteArray) (w : World) (hs : s.size ≤ maxLen) :
    Calls Tryd.prog 76 #[.string s] w fun e w' => e = .returned (.bool (textB s)) ∧ w = w' := by
  unfold maxLen at hs
  go_enter Tryd.func76, Tryd.ntmps76
  go_wp2
  go_loop [3] (fun i => ∃ k : Nat, k ≤ s.size ∧ i = .int .i64 k ∧ Hid ((s.data.toList.take k).all okC = true)) (fun i => s.size - (intOf i).toNat)
  case atStart => exact ⟨0, Nat.zero_le _, rfl, by simp [Hid]⟩
  case round =>
    obtain ⟨k, hk, rfl, ha⟩ := hrel
    by_cases hlt : k < s.size
    · by_cases hc : 97 ≤ (s[k].toNat : Int) ∧ (s[k].toNat : Int) ≤ 100
      · obtain ⟨c1, c2⟩ := hc
        have HS := Lib.hid (allTake_succ s k hlt ha.out c1 c2)
        go_wp2_with fail
        refine (l6In_yes _ _ _ _ c1 c2).mono ?_
        rintro e w' ⟨rfl, rfl⟩
        go_wp2
        go_round
        case rel => exact ⟨k + 1, by omega, by go_num, HS⟩
        case measure => simp [intOf]; omega
      · have HB := Lib.hid (textB_bad s k hlt hc)
        have HC := Lib.hid hc
        have b1 : (s[k].toNat : Int) < 256 := by have := s[k].toNat_lt; omega
        have b2 : 0 ≤ (s[k].toNat : Int) := by omega
        clear hc
        go_wp2_with fail
        refine (l6In_no _ _ _ _ HC.out).mono ?_
        rintro e w' ⟨rfl, rfl⟩
        go_wp2
        go_ret
        exact ⟨by rw [HB.out]; rfl, rfl⟩
    · have HB := Lib.hid (textB_all s k (by omega) ha.out)
      go_wp2
      go_ret
      exact ⟨by rw [HB.out]; rfl, rfl⟩

theorem textOk_any (s : ByteArray) (w : World) (hs : s.size ≤ maxLen) :
    Calls Tryd.prog 77 #[.string s] w fun e w' => e = .returned (.bool (textB s)) ∧ w = w' := by
  unfold maxLen at hs
  by_cases h4 : s.size ≤ 4
  · go_enter Tryd.func77, Tryd.ntmps77
    go_wp2
    go_loop [9] (fun i => ∃ k : Nat, k ≤ s.size ∧ i = .int .i64 k ∧ Hid ((s.data.toList.take k).all okC = true)) (fun i => s.size - (intOf i).toNat)
    case atStart => exact ⟨0, Nat.zero_le _, rfl, by simp [Hid]⟩
    case round =>
      obtain ⟨k, hk, rfl, ha⟩ := hrel
      by_cases hlt : k < s.size
      · by_cases hc : 97 ≤ (s[k].toNat : Int)
        · by_cases hd : (s[k].toNat : Int) ≤ 100
          · have HS := Lib.hid (allTake_succ s k hlt ha.out hc hd)
            go_wp2
            go_round
            case rel => exact ⟨k + 1, by omega, by go_num, HS⟩
            case measure => simp [intOf]; omega
          · have HB := Lib.hid (textB_bad s k hlt (fun h => hd h.2))
            go_wp2
            go_ret
            exact ⟨by rw [HB.out]; rfl, rfl⟩
        · have HB := Lib.hid (textB_bad s k hlt (fun h => hc h.1))
          go_wp2
          go_ret
          exact ⟨by rw [HB.out]; rfl, rfl⟩
      · have HB := Lib.hid ((textB_all s k (by omega) ha.out).trans (decide_eq_true (by omega)))
        go_wp2
        go_ret
        exact ⟨by rw [HB.out]; rfl, rfl⟩
  · rw [textB_long s h4]
    go_enter Tryd.func77, Tryd.ntmps77
    go_wp2
    go_ret
    exact ⟨rfl, rfl⟩
def rowB (id d : Int) (s : ByteArray) : Bool := if rootB id then (d == 0) && s.toList.isEmpty else madeB id && inB d 1 18 && textB s
theorem root_not_made (id : Int) (h : rootB id = true) : madeB id = false := by
  have := (rootB_iff _).1 h
  rw [Bool.eq_false_iff]; intro h; have := (madeB_iff _).1 h; omega
theorem who_root (id : Int) (h : rootB id = true) : whoI id = 0 ∧ whoB id = true := ⟨by simp [whoI, root_not_made id h], by simp [whoB, h]⟩
theorem who_made (id : Int) (h : madeB id = true) : (whoI id == 0) = false ∧ whoB id = true := by
  have := (madeB_iff _).1 h
  refine ⟨?_, by simp [whoB, h]⟩
  simp [whoI, h]; omega
theorem who_none (id : Int) (h : rootB id = false) (h' : madeB id = false) : whoB id = false := by simp [whoB, h, h']
theorem specRowOk_any (id d : Int) (s : ByteArray) (w : World) (hI : I64 id) (hs : s.size ≤ maxLen) :
    Calls Tryd.prog 53 #[.agg #[.int .i64 id, .int .i64 d, .string s]] w fun e w' => e = .returned (.bool (rowB id d s)) ∧ Below w.heap.size w w' := by
  cases hr : rootB id
  · cases hm : madeB id
    · have hv : rowB id d s = false := by simp [rowB, hr, hm]
      rw [hv]; clear hv
      go_enter Tryd.func53, Tryd.ntmps53
      go_wp2_with fail
      refine (l1Root_any _ _).mono ?_
      rintro e w' ⟨rfl, rfl⟩
      go_wp2_with fail
      refine (l1Made_any _ _ hI).mono ?_
      rintro e w' ⟨rfl, rfl⟩
      go_wp2
      go_ret
      exact ⟨rfl, (Below.refl _ _).alloc (Nat.le_refl _) _⟩
    · cases hd : inB d 1 18
      · have hv : rowB id d s = false := by simp [rowB, hr, hd]
        rw [hv]; clear hv
        go_enter Tryd.func53, Tryd.ntmps53
        go_wp2_with fail
        refine (l1Root_any _ _).mono ?_
        rintro e w' ⟨rfl, rfl⟩
        go_wp2_with fail
        refine (l1Made_any _ _ hI).mono ?_
        rintro e w' ⟨rfl, rfl⟩
        go_wp2_with fail
        refine (l6In_any _ _ _ _).mono ?_
        rintro e w' ⟨rfl, rfl⟩
        go_wp2
        go_ret
        exact ⟨rfl, (Below.refl _ _).alloc (Nat.le_refl _) _⟩
      · have hv : rowB id d s = textB s := by simp [rowB, hr, hm, hd]
        rw [hv]; clear hv
        go_enter Tryd.func53, Tryd.ntmps53
        go_wp2_with fail
        refine (l1Root_any _ _).mono ?_
        rintro e w' ⟨rfl, rfl⟩
        go_wp2_with fail
        refine (l1Made_any _ _ hI).mono ?_
        rintro e w' ⟨rfl, rfl⟩
        go_wp2_with fail
        refine (l6In_any _ _ _ _).mono ?_
        rintro e w' ⟨rfl, rfl⟩
        go_wp2_with fail
        refine (l1Text_any _ _ hs).mono ?_
        rintro e w' ⟨rfl, rfl⟩
        go_wp2
        go_ret
        exact ⟨rfl, (Below.refl _ _).alloc (Nat.le_refl _) _⟩
  · cases hd : (d == 0)
    · have hv : rowB id d s = false := by simp [rowB, hr, hd]
      rw [hv]; clear hv
      go_enter Tryd.func53, Tryd.ntmps53
      go_wp2_with fail
      refine (l1Root_any _ _).mono ?_
      rintro e w' ⟨rfl, rfl⟩
      go_wp2
      go_ret
      exact ⟨rfl, (Below.refl _ _).alloc (Nat.le_refl _) _⟩
    · have hv : rowB id d s = s.toList.isEmpty := by simp [rowB, hr, hd]
      rw [hv]; clear hv
      go_enter Tryd.func53, Tryd.ntmps53
      go_wp2_with fail
      refine (l1Root_any _ _).mono ?_
      rintro e w' ⟨rfl, rfl⟩
      go_wp2
      go_ret
      exact ⟨rfl, (Below.refl _ _).alloc (Nat.le_refl _) _⟩
theorem implRowOk_any (id d : Int) (s : ByteArray) (w : World) (hs : s.size ≤ maxLen) (ht : Tab w) (hz : 0 < w.heap.size) :
    Calls Tryd.prog 52 #[.agg #[.int .i64 id, .int .i64 d, .string s]] w fun e w' => e = .returned (.bool (rowB id d s)) ∧ Below w.heap.size w w' := by
  cases hr : rootB id
  · cases hm : madeB id
    · have hv : rowB id d s = false := by simp [rowB, hr, hm]
      have hw := who_none id hr hm
      rw [hv]; clear hv
      go_enter Tryd.func52, Tryd.ntmps52
      go_wp2_with fail
      refine (implRowWho_any _ _ (ht.below ((Below.refl w.heap.size w).alloc (Nat.le_refl _) _) hz)).mono ?_
      rintro e w' ⟨rfl, rfl⟩
      go_wp2
      go_ret
      exact ⟨rfl, (Below.refl _ _).alloc (Nat.le_refl _) _⟩
    · obtain ⟨hw1, hw2⟩ := who_made id hm
      cases hd1 : decide (1 ≤ d)
      · have hv : rowB id d s = false := by simp [rowB, hr, inB]; intro _ h; simp [h] at hd1
        rw [hv]; clear hv
        go_enter Tryd.func52, Tryd.ntmps52
        go_wp2_with fail
        refine (implRowWho_any _ _ (ht.below ((Below.refl w.heap.size w).alloc (Nat.le_refl _) _) hz)).mono ?_
        rintro e w' ⟨rfl, rfl⟩
        go_wp2
        go_ret
        exact ⟨rfl, (Below.refl _ _).alloc (Nat.le_refl _) _⟩
      · cases hd2 : decide (d ≤ 18)
        · have hv : rowB id d s = false := by simp [rowB, hr, inB]; intro _ _ h; simp [h] at hd2
          rw [hv]; clear hv
          go_enter Tryd.func52, Tryd.ntmps52
          go_wp2_with fail
          refine (implRowWho_any _ _ (ht.below ((Below.refl w.heap.size w).alloc (Nat.le_refl _) _) hz)).mono ?_
          rintro e w' ⟨rfl, rfl⟩
          go_wp2
          go_ret
          exact ⟨rfl, (Below.refl _ _).alloc (Nat.le_refl _) _⟩
        · have hv : rowB id d s = textB s := by simp at hd1 hd2; simp [rowB, hr, hm, inB, hd1, hd2]
          rw [hv]; clear hv
          go_enter Tryd.func52, Tryd.ntmps52
          go_wp2_with fail
          refine (implRowWho_any _ _ (ht.below ((Below.refl w.heap.size w).alloc (Nat.le_refl _) _) hz)).mono ?_
          rintro e w' ⟨rfl, rfl⟩
          go_wp2_with fail
          refine (textOk_any _ _ hs).mono ?_
          rintro e w' ⟨rfl, rfl⟩
          go_wp2
          go_ret
          exact ⟨rfl, (Below.refl _ _).alloc (Nat.le_refl _) _⟩
  · obtain ⟨hw1, hw2⟩ := who_root id hr
    cases hd : (d == 0)
    · have hv : rowB id d s = false := by simp [rowB, hr, hd]
      rw [hv]; clear hv
      go_enter Tryd.func52, Tryd.ntmps52
      go_wp2_with fail
      refine (implRowWho_any _ _ (ht.below ((Below.refl w.heap.size w).alloc (Nat.le_refl _) _) hz)).mono ?_
      rintro e w' ⟨rfl, rfl⟩
      go_wp2
      go_ret
      exact ⟨rfl, (Below.refl _ _).alloc (Nat.le_refl _) _⟩
    · have hv : rowB id d s = s.toList.isEmpty := by simp [rowB, hr, hd]
      rw [hv]; clear hv
      go_enter Tryd.func52, Tryd.ntmps52
      go_wp2_with fail
      refine (implRowWho_any _ _ (ht.below ((Below.refl w.heap.size w).alloc (Nat.le_refl _) _) hz)).mono ?_
      rintro e w' ⟨rfl, rfl⟩
      go_wp2
      go_ret
      exact ⟨rfl, (Below.refl _ _).alloc (Nat.le_refl _) _⟩

/-! ### the law FnExactRowOk -/
def IsRowArg (i d : Int) (t : ByteArray) : Prop := I64 i ∧ I64 d ∧ t.size ≤ maxLen
theorem Tab.pos {w : World} (h : Tab w) : 0 < w.heap.size := by
  have := h 0 (by decide)
  rcases Nat.lt_or_ge 0 w.heap.size with e | e
  · exact e
  · have hn : w.heap[0]? = none := by rw [Array.getElem?_eq_none_iff]; exact e
    simp [World.cell?, hn] at this
end Go.Proofs.YtcaoojceeppibaaDoor
