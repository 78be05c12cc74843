/-
  The walk of the law FnWho out of the contracts. Conditions: the argument reads as bytes; the table 'creators' holds what its initialiser lays.
-/
import Derived.Test.YtcaoojceeppibaaDoorRd
namespace Go.Proofs.YtcaoojceeppibaaDoor
open Go.ChangeShapes Go.WideShapes Go.ChangeAt Go.RowKit Go.Joins

def DrewInt (lo hi : Int) (w : World) (e : Ending) (w' : World) : Prop := ∃ n : Int, lo ≤ n ∧ n ≤ hi ∧ e = .returned (.int .i64 n) ∧ Below w.heap.size w w'
theorem drawRowWho_any (a : Option Addr) (len cap : Nat) (w : World) (hb : Bytes w a len cap) :
    Calls Tryd.prog 18 #[.slice a len cap] w (DrewInt 0 99 w) := by
  obtain ⟨h1, h2, h3⟩ := hb
  go_enter Tryd.func18, Tryd.ntmps18
  go_wp2_with fail
  refine (l6Open_any w.heap.size _ _ _ _ (Nat.le_refl _) h1 h2 h3).mono ?_
  rintro e w1 ⟨rfl, b1, s1, r1⟩
  go_wp2_with fail
  refine (pick_any _ _ _ _ _ r1 (by omega) (by omega) (by omega)).mono ?_
  rintro e w2 ⟨k2, k20, k21, rfl, b2, s2, r2⟩
  go_wp2_with fail
  refine (pick_any _ _ _ _ _ r2 (by omega) (by omega) (by omega)).mono ?_
  rintro e w3 ⟨k3, k30, k31, rfl, b3, s3, r3⟩
  go_wp2_with fail
  refine (pick_any _ _ _ _ _ r3 (by omega) (by omega) (by omega)).mono ?_
  rintro e w4 ⟨k4, k40, k41, rfl, b4, s4, r4⟩
  go_wp2_with fail
  refine (pick_any _ _ _ _ _ r4 (by omega) (by omega) (by omega)).mono ?_
  rintro e w5 ⟨k5, k50, k51, rfl, b5, s5, r5⟩
  go_wp2_with fail
  refine (pick_any _ _ _ _ _ r5 (by omega) (by omega) (by omega)).mono ?_
  rintro e w6 ⟨k6, k60, k61, rfl, b6, s6, r6⟩
  go_wp2_with fail
  refine (pick_any _ _ _ _ _ r6 (by omega) (by omega) (by omega)).mono ?_
  rintro e w7 ⟨k7, k70, k71, rfl, b7, s7, r7⟩
  have f2 : Below w.heap.size w w2 := b1.trans (b2.below (Nat.le_refl _) (by omega))
  have f3 : Below w.heap.size w w3 := f2.trans (b3.below (Nat.le_refl _) (by omega))
  have f4 : Below w.heap.size w w4 := f3.trans (b4.below (Nat.le_refl _) (by omega))
  have f5 : Below w.heap.size w w5 := f4.trans (b5.below (Nat.le_refl _) (by omega))
  have f6 : Below w.heap.size w w6 := f5.trans (b6.below (Nat.le_refl _) (by omega))
  have f7 : Below w.heap.size w w7 := f6.trans (b7.below (Nat.le_refl _) (by omega))
  clear f2 f3 f4 f5 f6 b1 b2 b3 b4 b5 b6 b7 r1 r2 r3 r4 r5 r6
  have hsz : w.heap.size < w7.heap.size := by omega
  clear s1 s2 s3 s4 s5 s6 s7
  have a8 : Below w7.heap.size w7 (w7.alloc (.cells #[.int .i64 k2, .int .i64 (11 + k3), .int .i64 (21 + k4), .int .i64 (10 * k5), .int .i64 (31 + k6), .int .i64 k7] 3)) := (Below.refl _ _).alloc (Nat.le_refl _) _
  go_wp2_with fail
  refine (pick_any _ _ _ _ _ (r7.below a8 hsz) (by omega) (by omega) (by omega)).mono ?_
  rintro e w9 ⟨k, k0, k1, rfl, b9, s9, r9⟩
  have f9 : Below w.heap.size w w9 := (f7.trans (a8.mono (by omega))).trans (b9.below (Nat.le_refl _) (by simp; omega))
  have hne : w7.heap.size ≠ w.heap.size := by omega
  have c : ∀ i, w9.cell? ⟨w7.heap.size, i, none⟩ = (w7.alloc (.cells #[.int .i64 k2, .int .i64 (11 + k3), .int .i64 (21 + k4), .int .i64 (10 * k5), .int .i64 (31 + k6), .int .i64 k7] 3)).cell? ⟨w7.heap.size, i, none⟩ :=
    fun i => b9.cell (p := ⟨w7.heap.size, i, none⟩) (by simp) hne
  have c0 : w9.cell? ⟨w7.heap.size, 0, none⟩ = some (.int .i64 k2) := by rw [c]; simp [go_sem]
  have c1 : w9.cell? ⟨w7.heap.size, 1, none⟩ = some (.int .i64 (11 + k3)) := by rw [c]; simp [go_sem]
  have c2 : w9.cell? ⟨w7.heap.size, 2, none⟩ = some (.int .i64 (21 + k4)) := by rw [c]; simp [go_sem]
  have c3 : w9.cell? ⟨w7.heap.size, 3, none⟩ = some (.int .i64 (10 * k5)) := by rw [c]; simp [go_sem]
  have c4 : w9.cell? ⟨w7.heap.size, 4, none⟩ = some (.int .i64 (31 + k6)) := by rw [c]; simp [go_sem]
  have c5 : w9.cell? ⟨w7.heap.size, 5, none⟩ = some (.int .i64 k7) := by rw [c]; simp [go_sem]
  clear c a8 b9 s9 r9 f7 r7
  obtain rfl | rfl | rfl | rfl | rfl | rfl : k = 0 ∨ k = 1 ∨ k = 2 ∨ k = 3 ∨ k = 4 ∨ k = 5 := by omega
  all_goals
    go_wp2
    go_ret
    exact ⟨_, by omega, by omega, rfl, f9⟩

/-- No row number of those tried is id. -/
def NotYet (id k j : Int) : Prop := ¬ (madeB id = true ∧ (id / 10 < k ∨ (id / 10 = k ∧ id % 10 < j)))
theorem notYet_start (id : Int) : NotYet id 1 1 := by
  rintro ⟨h, h2⟩; have := (madeB_iff _).1 h; omega
theorem notYet_step (id k j : Int) (h : NotYet id k j) (hne : 10 * k + j ≠ id) : NotYet id k (j + 1) := by
  rintro ⟨h1, h2⟩; apply h; refine ⟨h1, ?_⟩; omega
theorem notYet_line (id k j : Int) (h : NotYet id k j) (hj : 7 ≤ j) : NotYet id (k + 1) 1 := by
  rintro ⟨h1, h2⟩; apply h; refine ⟨h1, ?_⟩; have := (madeB_iff _).1 h1; omega
theorem notYet_end (id k : Int) (h : NotYet id k 1) (hk : 4 ≤ k) : madeB id = false := by
  rw [Bool.eq_false_iff]; intro h1; apply h; refine ⟨h1, ?_⟩; have := (madeB_iff _).1 h1; omega

theorem fnWho_walk (w : World) (ht : Tab w) (a0 : Option Addr) (len0 cap0 : Nat) (b0 : Bytes w a0 len0 cap0) :
    Calls Tryd.prog 4 #[.slice a0 len0 cap0] w fun e w' => e = .returned (.bool true) ∧ Below w.heap.size w w' := by
  have hz := ht.pos
  have hm := b0.2.2.1
  unfold maxLen at hm
  by_cases hlen : (len0 : Int) ≤ 1048576
  · go_enter Tryd.func4, Tryd.ntmps4
    go_wp2_with fail
    refine (drawRowWho_any _ _ _ _ b0).mono ?_
    rintro e w1 ⟨id, h1, h2, rfl, hb⟩
    have ht1 := ht.below hb hz
    clear ht hz hm b0
    go_wp2_with fail
    refine (specRowWho_any _ _ ⟨by omega, by omega⟩).mono ?_
    rintro e w' ⟨rfl, rfl⟩
    go_wp2_with fail
    refine (implRowWho_any _ _ ht1).mono ?_
    rintro e w' ⟨rfl, rfl⟩
    by_cases hr : 1 ≤ id ∧ id ≤ 3
    · obtain ⟨e1, e2⟩ := who_root id ((rootB_iff _).2 hr)
      rw [e1, e2]; clear e1 e2
      obtain ⟨g1, g2⟩ := hr
      go_wp2
      go_ret
      exact ⟨rfl, hb⟩
    · have hr' : rootB id = false := by rw [Bool.eq_false_iff]; intro h; exact hr ((rootB_iff _).1 h)
      have HB := Lib.hid (show whoB id = madeB id by simp [whoB, hr'])
      have g : id < 1 ∨ 3 < id := by omega
      have hp := Lib.hid (show ∀ k j : Int, 1 ≤ k → k ≤ 3 → 1 ≤ j → j ≤ 6 → madeI k j = 10 * k + j from fun k j a b c d => by simp [madeI, inB, a, b, c, d])
      clear hr
      rcases g with g | g
      all_goals
        go_wp2
        go_loop [8] (fun i => ∃ k : Int, 1 ≤ k ∧ k ≤ 4 ∧ i = .int .i64 k ∧ NotYet id k 1) (fun i => (4 - intOf i).toNat)
        case atStart => exact ⟨1, by omega, by omega, rfl, notYet_start id⟩
        case round =>
          obtain ⟨k, k1, k2, rfl, hk⟩ := hrel
          by_cases hlt : k ≤ 3
          · go_wp2
            go_loop [9] (fun i => ∃ j : Int, 1 ≤ j ∧ j ≤ 7 ∧ i = .int .i64 j ∧ NotYet id k j) (fun i => (7 - intOf i).toNat)
            case atStart => exact ⟨1, by omega, by omega, rfl, hk⟩
            case round =>
              obtain ⟨j, j1, j2, rfl, hj⟩ := hrel
              by_cases jlt : j ≤ 6
              · have HP := Lib.hid (hp.out k j k1 hlt j1 jlt)
                by_cases he : 10 * k + j = id
                · have he' := beq_iff_eq.2 he
                  have hmade : madeB id = true := by rw [madeB_iff]; omega
                  have hw : whoB id = true := by rw [HB.out]; exact hmade
                  have hi : (whoI id == k) = true := by rw [beq_iff_eq]; simp [whoI, hmade]; omega
                  clear he hmade
                  go_wp2_with fail
                  refine (implRowMade_any _ _ _).mono ?_
                  rintro e w' ⟨rfl, rfl⟩
                  rw [HP.out]
                  go_wp2
                  go_ret
                  exact ⟨rfl, hb⟩
                · have he' := beq_eq_false_iff_ne.2 he
                  have hs := notYet_step id k j hj he
                  clear he
                  go_wp2_with fail
                  refine (implRowMade_any _ _ _).mono ?_
                  rintro e w' ⟨rfl, rfl⟩
                  rw [HP.out]
                  go_wp2
                  go_round
                  case rel => exact ⟨j + 1, by omega, by omega, rfl, hs⟩
                  case measure => simp [intOf]; omega
              · have hl := notYet_line id k j hj (by omega)
                go_wp2
                go_round
                case rel => exact ⟨k + 1, by omega, by omega, rfl, hl⟩
                case measure => simp [intOf]; omega
          · have hn : whoB id = false := by rw [HB.out]; exact notYet_end id k hk (by omega)
            go_wp2
            go_ret
            exact ⟨rfl, hb⟩
  · go_enter Tryd.func4, Tryd.ntmps4
    go_wp2
    go_ret
    exact ⟨rfl, Below.refl _ _⟩
end Go.Proofs.YtcaoojceeppibaaDoor
