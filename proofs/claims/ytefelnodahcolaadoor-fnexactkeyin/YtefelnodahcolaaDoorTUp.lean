/-
  Contracts of the model's l2Up, l2Ahead, l2Under. Conditions: the rows lie in memory as a slice of rows.
-/
import Derived.Test.YtefelnodahcolaaDoorTEnd
namespace Go.Proofs.YtefelnodahcolaaDoor
open Go.ChangeShapes Go.WideShapes Go.ChangeAt Go.RowKit Go.Joins

theorem upAt_hit {rs : List RowD} {i q : Nat} (hq : q < i) (h : ∀ j, q < j → j < i → rdep rs i ≤ rdep rs j) (e : rdep rs q < rdep rs i) : upAt rs i = (rat rs q).id := by
  unfold upAt; rw [lstBelow_mk _ i q hq (by simpa using e) (fun j a b => by simpa using h j a b)]
theorem upAt_none {rs : List RowD} {i : Nat} (h : ∀ j, j < i → rdep rs i ≤ rdep rs j) : upAt rs i = 0 := by
  unfold upAt; rw [lstBelow_mk_none _ i (fun j a => by simpa using h j a)]
theorem l2Up_any (B : Nat) (a : Option Addr) (cap i : Nat) (rs : List RowD) (w : World) (hB : B ≤ w.heap.size) (h : RowsAt B w a rs) (hf : Fit rs) (hi : i < rs.length) :
    Calls Tryd.prog 37 #[.slice a rs.length cap, .int .i64 i] w (RetBelow (.int .i64 (upAt rs i)) w) := by
  have hl := hf.1
  go_enter Tryd.func37, Tryd.ntmps37
  go_wp2
  go_loopw [5] (fun e w' => ∃ k : Nat, k ≤ i ∧ e = .int .i64 ((k : Int) - 1) ∧ Hid (∀ j, k ≤ j → j < i → rdep rs i ≤ rdep rs j) ∧ Below w.heap.size w w') (fun e _ => (intOf e + 1).toNat)
  case atStart => exact ⟨i, Nat.le_refl _, rfl, fun j h1 h2 => by omega, Below.refl _ _⟩
  case round =>
    obtain ⟨k, hk, rfl, ha, hb⟩ := hrel
    have hr := h.below (hb.mono hB)
    cases k with
    | succ q =>
      have e1 : (((q + 1 : Nat) : Int) - 1) = (q : Int) := by omega
      rw [e1]
      clear e1
      have hq : q < rs.length := by omega
      obtain ⟨b, off, rfl, _, c0, c1, c2⟩ := hr.at_ hq
      obtain ⟨b', off', e2, _, d0, d1, d2⟩ := hr.at_ hi
      cases e2
      have i1 : (q : Int) < (rs.length : Int) := by omega
      have i2 : (i : Int) < (rs.length : Int) := by omega
      by_cases hd : (rat rs q).dep < (rat rs i).dep
      · have HF := Lib.hid (upAt_hit (show q < i by omega) ha.out hd)
        go_wp2
        go_quiet (fail)
        go_wp2
        go_ret
        exact ⟨by rw [HF.out]; rfl, below_drewN _ hb⟩
      · have HN : Hid (∀ j, q ≤ j → j < i → rdep rs i ≤ rdep rs j) := fun j h1 h2 => by
          by_cases e : j = q
          · subst e; show (rat rs i).dep ≤ (rat rs j).dep; omega
          · exact ha.out j (by omega) h2
        go_wp2
        go_quiet (fail)
        go_wp2
        go_roundw
        case rel => exact ⟨q, by omega, rfl, HN, below_drewN _ hb⟩
        case measure => simp [intOf]
    | zero =>
      have HF := Lib.hid (upAt_none fun j hj => ha.out j (Nat.zero_le _) hj)
      have e1 : (((0 : Nat) : Int) - 1) = (-1 : Int) := by omega
      rw [e1]
      clear e1
      go_wp2
      go_ret
      exact ⟨by rw [HF.out]; rfl, hb⟩

theorem ahAt_hit {rs : List RowD} {i q : Nat} (hq : q < i) (h : ∀ j, q < j → j < i → rdep rs i < rdep rs j) (e : rdep rs q = rdep rs i) : ahAt rs i = (rat rs q).id := by
  unfold ahAt; rw [lstBelow_mk _ i q hq (by simp; omega) (fun j a b => by simpa using h j a b)]
  simp [e]
theorem ahAt_stop {rs : List RowD} {i q : Nat} (hq : q < i) (h : ∀ j, q < j → j < i → rdep rs i < rdep rs j) (e : rdep rs q < rdep rs i) : ahAt rs i = 0 := by
  unfold ahAt; rw [lstBelow_mk _ i q hq (by simp; omega) (fun j a b => by simpa using h j a b)]
  simp only
  rw [if_neg (by omega)]
theorem ahAt_none {rs : List RowD} {i : Nat} (h : ∀ j, j < i → rdep rs i < rdep rs j) : ahAt rs i = 0 := by
  unfold ahAt; rw [lstBelow_mk_none _ i (fun j a => by simpa using h j a)]
theorem l2Ahead_any (B : Nat) (a : Option Addr) (cap i : Nat) (rs : List RowD) (w : World) (hB : B ≤ w.heap.size) (h : RowsAt B w a rs) (hf : Fit rs) (hi : i < rs.length) :
    Calls Tryd.prog 38 #[.slice a rs.length cap, .int .i64 i] w (RetBelow (.int .i64 (ahAt rs i)) w) := by
  have hl := hf.1
  go_enter Tryd.func38, Tryd.ntmps38
  go_wp2
  go_loopw [5] (fun e w' => ∃ k : Nat, k ≤ i ∧ e = .int .i64 ((k : Int) - 1) ∧ Hid (∀ j, k ≤ j → j < i → rdep rs i < rdep rs j) ∧ Below w.heap.size w w') (fun e _ => (intOf e + 1).toNat)
  case atStart => exact ⟨i, Nat.le_refl _, rfl, fun j h1 h2 => by omega, Below.refl _ _⟩
  case round =>
    obtain ⟨k, hk, rfl, ha, hb⟩ := hrel
    have hr := h.below (hb.mono hB)
    cases k with
    | succ q =>
      have e1 : (((q + 1 : Nat) : Int) - 1) = (q : Int) := by omega
      rw [e1]
      clear e1
      have hq : q < rs.length := by omega
      obtain ⟨b, off, rfl, _, c0, c1, c2⟩ := hr.at_ hq
      obtain ⟨b', off', e2, _, d0, d1, d2⟩ := hr.at_ hi
      cases e2
      have i1 : (q : Int) < (rs.length : Int) := by omega
      have i2 : (i : Int) < (rs.length : Int) := by omega
      have i3 : (0 : Int) ≤ (q : Int) := by omega
      by_cases hd : (rat rs i).dep ≤ (rat rs q).dep
      · cases he : ((rat rs q).dep == (rat rs i).dep)
        · have HN : Hid (∀ j, q ≤ j → j < i → rdep rs i < rdep rs j) := fun j h1 h2 => by
            by_cases e : j = q
            · subst e
              have : (rat rs j).dep ≠ (rat rs i).dep := by simpa using he
              show (rat rs i).dep < (rat rs j).dep
              omega
            · exact ha.out j (by omega) h2
          go_wp2
          go_quiet (fail)
          go_wp2
          go_quiet (fail)
          go_wp2
          go_roundw
          case rel => exact ⟨q, by omega, rfl, HN, below_drewN _ hb⟩
          case measure => simp [intOf]
        · have HF := Lib.hid (ahAt_hit (show q < i by omega) ha.out (show (rat rs q).dep = (rat rs i).dep by simpa using he))
          go_wp2
          go_quiet (fail)
          go_wp2
          go_quiet (fail)
          go_wp2
          go_ret
          exact ⟨by rw [HF.out]; rfl, below_drewN _ hb⟩
      · have HF := Lib.hid (ahAt_stop (show q < i by omega) ha.out (by unfold rdep; omega))
        go_wp2
        go_quiet (fail)
        go_wp2
        go_ret
        exact ⟨by rw [HF.out]; rfl, below_drewN _ hb⟩
    | zero =>
      have HF := Lib.hid (ahAt_none fun j hj => ha.out j (Nat.zero_le _) hj)
      have e1 : (((0 : Nat) : Int) - 1) = (-1 : Int) := by omega
      rw [e1]
      clear e1
      have hd : decide ((0 : Int) ≤ -1) = false := by decide
      go_wp2
      go_quiet (fail)
      go_wp2
      go_ret
      exact ⟨by rw [HF.out]; rfl, below_drewN _ hb⟩

/-! ### l2Under -/
theorem undB_no1 {rs : List RowD} {id under : Int} (h : ¬ atN rs id < rs.length) : undB rs id under = false := by simp [undB, h]
theorem undB_no2 {rs : List RowD} {id under : Int} (h : ¬ atN rs under < rs.length) : undB rs id under = false := by simp [undB, h]
theorem undB_inB {rs : List RowD} {id under : Int} (h1 : atN rs id < rs.length) (h2 : atN rs under < rs.length) : undB rs id under = inB (atN rs id : Int) (atN rs under : Int) ((enR rs (atN rs under) : Int) - 1) := by
  unfold undB inB
  rw [Bool.eq_iff_iff]
  simp only [h1, h2, decide_true, Bool.true_and, Bool.and_eq_true, decide_eq_true_eq]
  omega
theorem l2Under_any (B : Nat) (a : Option Addr) (cap : Nat) (rs : List RowD) (id under : Int) (w : World) (hB : B ≤ w.heap.size) (h : RowsAt B w a rs) (hf : Fit rs) :
    Calls Tryd.prog 32 #[.slice a rs.length cap, .int .i64 id, .int .i64 under] w (RetBelow (.bool (undB rs id under)) w) := by
  have hl := hf.1
  by_cases h1 : atN rs id < rs.length
  · by_cases h2 : atN rs under < rs.length
    · have HU := Lib.hid (undB_inB h1 h2)
      have H1 := Lib.hid (atI_pos h1)
      have H2 := Lib.hid (atI_pos h2)
      have he : enR rs (atN rs under) ≤ rs.length := (en_spec (D := rdep rs) h2).2.1
      go_enter Tryd.func32, Tryd.ntmps32
      go_wp2_with fail
      refine (l2At_any B _ _ _ _ _ h hf).mono ?_
      rintro e w' ⟨rfl, rfl⟩
      rw [H1.out]
      go_wp2_with fail
      refine (l2At_any B _ _ _ _ _ h hf).mono ?_
      rintro e w' ⟨rfl, rfl⟩
      rw [H2.out]
      generalize atN rs id = p at *
      go_wp2_with fail
      refine (l2End_any B _ _ _ _ _ hB h hf h2).mono ?_
      rintro e w1 ⟨rfl, hb⟩
      generalize atN rs under = q at *
      go_wp2_with fail
      refine (l6In_any _ _ _ _).mono ?_
      rintro e w' ⟨rfl, rfl⟩
      rw [← HU.out]
      go_wp2
      go_ret
      exact ⟨rfl, hb⟩
    · have HU := Lib.hid (undB_no2 (id := id) h2)
      have H1 := Lib.hid (atI_pos h1)
      have H2 := Lib.hid (atI_neg (rs := rs) (id := under) (by have := atN_le rs under; omega))
      go_enter Tryd.func32, Tryd.ntmps32
      go_wp2_with fail
      refine (l2At_any B _ _ _ _ _ h hf).mono ?_
      rintro e w' ⟨rfl, rfl⟩
      rw [H1.out]
      go_wp2_with fail
      refine (l2At_any B _ _ _ _ _ h hf).mono ?_
      rintro e w' ⟨rfl, rfl⟩
      rw [H2.out]
      go_wp2
      go_ret
      exact ⟨by rw [HU.out]; rfl, Below.refl _ _⟩
  · have HU := Lib.hid (undB_no1 (under := under) h1)
    have H1 := Lib.hid (atI_neg (rs := rs) (id := id) (by have := atN_le rs id; omega))
    go_enter Tryd.func32, Tryd.ntmps32
    go_wp2_with fail
    refine (l2At_any B _ _ _ _ _ h hf).mono ?_
    rintro e w' ⟨rfl, rfl⟩
    rw [H1.out]
    go_wp2_with fail
    refine (l2At_any B _ _ _ _ _ h hf).mono ?_
    rintro e w' ⟨rfl, rfl⟩
    go_wp2
    go_ret
    exact ⟨by rw [HU.out]; rfl, Below.refl _ _⟩
end Go.Proofs.YtefelnodahcolaaDoor
