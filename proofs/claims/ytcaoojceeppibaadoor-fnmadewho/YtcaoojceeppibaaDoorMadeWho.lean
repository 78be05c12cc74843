/-
  The walk of the law FnMadeWho out of the contracts. Conditions: the arguments read as bytes; the table 'creators' holds what its initialiser lays.
-/
import Derived.Test.YtcaoojceeppibaaDoorRd
namespace Go.Proofs.YtcaoojceeppibaaDoor
open Go.ChangeShapes Go.WideShapes Go.ChangeAt Go.RowKit Go.Joins

def DrewMade (w : World) (e : Ending) (w' : World) : Prop := ∃ who n : Int, 0 ≤ who ∧ who < 5 ∧ 0 ≤ n ∧ n < 8 ∧ e = .returned (.tuple #[.int .i64 who, .int .i64 n]) ∧ Below w.heap.size w w'
theorem drawRowMade_any (a : Option Addr) (len cap : Nat) (w : World) (hb : Bytes w a len cap) :
    Calls Tryd.prog 14 #[.slice a len cap] w (DrewMade w) := by
  obtain ⟨h1, h2, h3⟩ := hb
  go_enter Tryd.func14, Tryd.ntmps14
  go_wp2_with fail
  refine (l6Open_any w.heap.size _ _ _ _ (Nat.le_refl _) h1 h2 h3).mono ?_
  rintro e w1 ⟨rfl, b1, s1, r1⟩
  go_wp2_with fail
  refine (pick_any _ _ _ _ _ r1 (by omega) (by omega) (by omega)).mono ?_
  rintro e w2 ⟨k, k0, k1, rfl, b2, s2, r2⟩
  go_wp2_with fail
  refine (pick_any _ _ _ _ _ r2 (by omega) (by omega) (by omega)).mono ?_
  rintro e w3 ⟨j, j0, j1, rfl, b3, s3, r3⟩
  have f2 : Below w.heap.size w w2 := b1.trans (b2.below (Nat.le_refl _) (by omega))
  have f3 : Below w.heap.size w w3 := f2.trans (b3.below (Nat.le_refl _) (by omega))
  go_wp2
  go_ret2
  exact ⟨k, j, k0, k1, j0, j1, rfl, f3⟩

theorem fnMadeWho_long (a0 : Option Addr) (len0 cap0 : Nat) (a1 : Option Addr) (len1 cap1 : Nat) (w : World) (h0 : len0 ≤ maxLen) (h1 : len1 ≤ maxLen) (h : ¬ ((len0 : Int) ≤ 1048576 ∧ (len1 : Int) ≤ 1048576)) :
    Calls Tryd.prog 3 #[.slice a0 len0 cap0, .slice a1 len1 cap1] w fun e w' => e = .returned (.bool true) ∧ Below w.heap.size w w' := by
  unfold maxLen at h0 h1
  by_cases g : (len0 : Int) ≤ 1048576
  · have g2 : ¬ (len1 : Int) ≤ 1048576 := fun g2 => h ⟨g, g2⟩
    clear h
    go_enter Tryd.func3, Tryd.ntmps3
    go_wp2
    go_ret
    exact ⟨rfl, Below.refl _ _⟩
  · clear h
    go_enter Tryd.func3, Tryd.ntmps3
    go_wp2
    go_ret
    exact ⟨rfl, Below.refl _ _⟩

theorem made_pos (who n : Int) (h : inB who 1 3 = true) (h' : inB n 1 6 = true) : madeI who n = 10 * who + n := by simp [madeI, h, h']
theorem made_zero (who n : Int) (h : ¬ (inB who 1 3 = true ∧ inB n 1 6 = true)) : madeI who n = 0 := by
  unfold madeI; rw [if_neg]; simpa using h
theorem who_of (who n : Int) (h : 1 ≤ who ∧ who ≤ 3) (h' : 1 ≤ n ∧ n ≤ 6) : whoI (10 * who + n) = who ∧ whoB (10 * who + n) = true := by
  have hm : madeB (10 * who + n) = true := by rw [madeB_iff]; omega
  exact ⟨by simp [whoI, hm]; omega, by simp [whoB, hm]⟩

theorem fnMadeWho_walk (w : World) (ht : Tab w) (a0 : Option Addr) (len0 cap0 : Nat) (b0 : Bytes w a0 len0 cap0) (a1 : Option Addr) (len1 cap1 : Nat) (b1 : Bytes w a1 len1 cap1) :
    Calls Tryd.prog 3 #[.slice a0 len0 cap0, .slice a1 len1 cap1] w fun e w' => e = .returned (.bool true) ∧ Below w.heap.size w w' := by
  have hz := ht.pos
  by_cases hlen : (len0 : Int) ≤ 1048576 ∧ (len1 : Int) ≤ 1048576
  · obtain ⟨l0, l1⟩ := hlen
    go_enter Tryd.func3, Tryd.ntmps3
    go_wp2_with fail
    refine (drawRowMade_any _ _ _ _ b0).mono ?_
    rintro e w1 ⟨who, n, h1, h2, h3, h4, rfl, hb⟩
    have ht1 := ht.below hb hz
    by_cases hm : inB who 1 3 = true ∧ inB n 1 6 = true
    · obtain ⟨m1, m2⟩ := hm
      have HM := Lib.hid (made_pos who n m1 m2)
      obtain ⟨m1, m3⟩ := (inB_iff _ _ _).1 m1
      obtain ⟨m2, m4⟩ := (inB_iff _ _ _).1 m2
      go_wp2_with fail
      refine (implRowMade_any _ _ _).mono ?_
      rintro e w' ⟨rfl, rfl⟩
      rw [HM.out]
      go_wp2_with fail
      refine (specRowMade_any _ _ _).mono ?_
      rintro e w' ⟨rfl, rfl⟩
      rw [HM.out]
      go_wp2_with fail
      refine (implRowWho_any _ _ ht1).mono ?_
      rintro e w' ⟨rfl, rfl⟩
      obtain ⟨e1, e2⟩ := who_of who n ⟨m1, m3⟩ ⟨m2, m4⟩
      rw [e1, e2]
      clear e1 e2
      have x1 : 1 ≤ 1 + (len1 : Int) % 3 := by omega
      have x2 : 1 + (len1 : Int) % 3 ≤ 3 := by omega
      have y1 : 1 ≤ 1 + (len1 : Int) / 3 % 6 := by omega
      have y2 : 1 + (len1 : Int) / 3 % 6 ≤ 6 := by omega
      have HA := Lib.hid (made_pos (1 + (len1 : Int) % 3) (1 + (len1 : Int) / 3 % 6) ((inB_iff _ _ _).2 ⟨x1, x2⟩) ((inB_iff _ _ _).2 ⟨y1, y2⟩))
      by_cases ha : 1 + (len1 : Int) % 3 = who
      · have ha' := beq_iff_eq.2 ha
        by_cases hn : 1 + (len1 : Int) / 3 % 6 = n
        · have hn' := beq_iff_eq.2 hn
          have hc : (10 * (1 + (len1 : Int) % 3) + (1 + (len1 : Int) / 3 % 6) == 10 * who + n) = true := by rw [beq_iff_eq]; omega
          clear ha hn
          go_wp2_with fail
          refine (implRowMade_any _ _ _).mono ?_
          rintro e w' ⟨rfl, rfl⟩
          rw [HA.out]
          go_wp2
          go_ret
          exact ⟨rfl, hb⟩
        · have hn' : ((1 + (len1 : Int) / 3 % 6) == n) = false := beq_eq_false_iff_ne.2 hn
          have hc : (10 * (1 + (len1 : Int) % 3) + (1 + (len1 : Int) / 3 % 6) == 10 * who + n) = false := by rw [beq_eq_false_iff_ne]; omega
          clear ha hn
          go_wp2_with fail
          refine (implRowMade_any _ _ _).mono ?_
          rintro e w' ⟨rfl, rfl⟩
          rw [HA.out]
          go_wp2
          go_ret
          exact ⟨rfl, hb⟩
      · have ha' : ((1 + (len1 : Int) % 3) == who) = false := beq_eq_false_iff_ne.2 ha
        have hc : (10 * (1 + (len1 : Int) % 3) + (1 + (len1 : Int) / 3 % 6) == 10 * who + n) = false := by rw [beq_eq_false_iff_ne]; omega
        clear ha
        go_wp2_with fail
        refine (implRowMade_any _ _ _).mono ?_
        rintro e w' ⟨rfl, rfl⟩
        rw [HA.out]
        go_wp2
        go_ret
        exact ⟨rfl, hb⟩
    · have HM := Lib.hid (made_zero who n hm)
      clear hm
      go_wp2_with fail
      refine (implRowMade_any _ _ _).mono ?_
      rintro e w' ⟨rfl, rfl⟩
      rw [HM.out]
      go_wp2_with fail
      refine (specRowMade_any _ _ _).mono ?_
      rintro e w' ⟨rfl, rfl⟩
      rw [HM.out]
      go_wp2_with fail
      refine (specRowMade_any _ _ _).mono ?_
      rintro e w' ⟨rfl, rfl⟩
      rw [HM.out]
      go_wp2
      go_ret
      exact ⟨rfl, hb⟩
  · exact fnMadeWho_long a0 len0 cap0 a1 len1 cap1 w b0.2.2.1 b1.2.2.1 hlen
end Go.Proofs.YtcaoojceeppibaaDoor
