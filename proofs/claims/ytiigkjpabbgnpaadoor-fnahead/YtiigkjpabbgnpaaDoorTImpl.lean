/-
  Contracts of the program's TreeUp, TreeAhead, TreeUnder: they answer as the model's. Conditions: the rows lie in memory as a slice of rows; the table 'creators' holds what its initialiser lays.
-/
import Derived.Test.YtiigkjpabbgnpaaDoorFind
namespace Go.Proofs.YtiigkjpabbgnpaaDoor
open Go.ChangeShapes Go.WideShapes Go.ChangeAt Go.RowKit Go.Joins

/-- How many nodes there are: the top alone where the rows are no outline. -/
def nodesN (rs : List RowD) : Nat := (if treeB rs then rs.length else 0) + 1
theorem nodesN_deps (rs : List RowD) : Deps (dp rs) (nodesN rs) := by
  unfold nodesN
  cases h : treeB rs
  · exact deps_one _ rfl
  · exact (treeP_of h).deps
theorem find_any (nb : Nat → Nat) (rs : List RowD) (id : Int) (w : World) (hN : Nodes w nb rs (nodesN rs)) :
    Calls Tryd.prog 38 #[.pointer (some ⟨nb 0, 0, none⟩), .int .i64 id] w (Found nb (fndO rs (nodesN rs) id) w) :=
  callsIn_wide.1 (find_in Fence.wide rfl 3 trivial trivial trivial trivial rfl (Nat.le_refl _) nb rs (nodesN rs) id (nodesN_deps rs) w hN)
theorem fnd_no {rs : List RowD} {id : Int} (h : hasB rs id = false) : fndO rs (nodesN rs) id = none := by
  unfold fndO nodesN
  cases ht : treeB rs
  · rfl
  · simp only [hasB, ht, Bool.true_and, decide_eq_false_iff_not] at h
    rw [if_neg]
    exact h
theorem hasB_iff {rs : List RowD} {id : Int} : hasB rs id = true ↔ treeB rs = true ∧ atN rs id < rs.length := by simp [hasB]
theorem fnd_yes {rs : List RowD} {id : Int} (h : hasB rs id = true) : fndO rs (nodesN rs) id = some (atN rs id + 1) := by
  obtain ⟨h1, h2⟩ := hasB_iff.1 h
  unfold fndO nodesN
  rw [h1]
  exact if_pos h2
theorem nodesN_tree {rs : List RowD} (h : treeB rs = true) : nodesN rs = rs.length + 1 := by simp [nodesN, h]

theorem implTreeUp_any (B : Nat) (a : Option Addr) (cap : Nat) (rs : List RowD) (id : Int) (w : World) (hB : B ≤ w.heap.size) (h : RowsAt B w a rs) (hf : Fit rs) (ht : Tab w) :
    Calls Tryd.prog 15 #[.slice a rs.length cap, .int .i64 id] w (RetBelow (.tuple #[.int .i64 (upI rs id), .bool (hasB rs id)]) w) := by
  cases hh : hasB rs id
  · have e2 : upI rs id = 0 := by simp [upI, hh]
    have HF := Lib.hid (fnd_no hh)
    rw [e2]
    clear e2 hh
    go_enter Tryd.func15, Tryd.ntmps15
    go_wp2_with fail
    refine (treeOf_any B _ _ _ _ hB h hf ht).mono ?_
    rintro e w1 ⟨nb, rfl, _, hN, hb1⟩
    go_wp2_with fail
    refine (find_any nb rs id w1 hN).mono ?_
    rintro e w2 ⟨rfl, hb2⟩
    rw [HF.out]
    simp only [padr]
    go_wp2
    go_ret2
    exact ⟨rfl, hb1.trans (hb2.mono hb1.size)⟩
  · have HF := Lib.hid (fnd_yes hh)
    obtain ⟨htb, hat⟩ := hasB_iff.1 hh
    have e2 : upI rs id = upAt rs (atN rs id) := by simp [upI, hh]
    rw [e2]
    have hP := treeP_of htb
    have HS := Lib.hid (par_shift hP hat)
    have hps := (par_spec hP.deps (show 1 ≤ atN rs id + 1 by omega) (by omega)).1
    have HM := Lib.hid (nodesN_tree htb)
    have HU : Hid (upO rs (atN rs id + 1) = some (par (dp rs) (atN rs id + 1))) := by unfold Hid upO; rw [if_neg (by omega)]
    clear e2 hh htb hP
    go_enter Tryd.func15, Tryd.ntmps15
    go_wp2_with fail
    refine (treeOf_any B _ _ _ _ hB h hf ht).mono ?_
    rintro e w1 ⟨nb, rfl, _, hN, hb1⟩
    go_wp2_with fail
    refine (find_any nb rs id w1 hN).mono ?_
    rintro e w2 ⟨rfl, hb2⟩
    rw [HF.out]
    simp only [padr]
    have hN2 : Nodes w2 nb rs (nodesN rs) := hN.below hb2
    rw [HM.out] at hN2
    have l3 := (hN2.links (show atN rs id + 1 < rs.length + 1 by omega)).1
    rw [HU.out] at l3
    simp only [padr] at l3
    have r0 := (hN2.row (show par (dp rs) (atN rs id + 1) < rs.length + 1 by omega)).1
    rw [HS.out] at r0
    clear hN hN2
    go_wp2
    go_ret2
    exact ⟨rfl, hb1.trans (hb2.mono hb1.size)⟩

/-! ### TreeAhead -/
theorem ah_shift {rs : List RowD} (h : TreeP rs) {i : Nat} (hi : i < rs.length) (hr : 1 ≤ (rat rs i).dep) :
    (ah (dp rs) (i + 1) = none ∧ ahAt rs i = 0) ∨ (∃ j, j < rs.length ∧ ah (dp rs) (i + 1) = some (j + 1) ∧ ahAt rs i = (rat rs j).id) := by
  have hD := h.deps
  obtain ⟨p1, p2, p3⟩ := par_spec hD (show 1 ≤ i + 1 by omega) (show i + 1 < rs.length + 1 by omega)
  have pd := par_dep hD (show 1 ≤ i + 1 by omega) (show i + 1 < rs.length + 1 by omega)
  have pin := par_in hD (show 1 ≤ i + 1 by omega) (show i + 1 < rs.length + 1 by omega)
  have pne : par (dp rs) (i + 1) ≠ 0 := fun e => by
    rw [e] at pd
    have h0 := hD.top
    have : dp rs (i + 1) = (rat rs i).dep := rfl
    omega
  obtain ⟨q, hq⟩ : ∃ q, par (dp rs) (i + 1) = q + 1 := ⟨par (dp rs) (i + 1) - 1, by omega⟩
  have dq : rdep rs q = rdep rs i - 1 := by rw [hq] at pd; exact pd
  unfold ahAt
  cases e : lstBelow (fun j => decide (rdep rs j ≤ rdep rs i)) i with
  | none =>
    have := lstBelow_none _ _ e q (by omega)
    simp only [decide_eq_false_iff_not] at this
    omega
  | some j =>
    obtain ⟨a, b, c⟩ := lstBelow_some _ _ _ e
    simp only [decide_eq_true_eq] at b
    have hqj : q ≤ j := by
      rcases Nat.lt_or_ge j q with g | g
      · have := c q g (by omega)
        simp only [decide_eq_false_iff_not] at this; omega
      · exact g
    by_cases ej : rdep rs j = rdep rs i
    · right
      refine ⟨j, by omega, ?_, by simp only; rw [if_pos ej]⟩
      unfold ah
      have hjq : q < j := by
        rcases Nat.lt_or_ge q j with g | g
        · exact g
        · have : j = q := by omega
          rw [this] at ej; omega
      refine lstBelow_mk _ _ _ (by omega) ?_ (fun l h1 h2 => ?_)
      · refine (kid_iff hD (by omega) (by omega)).2 ⟨by omega, by omega, ?_⟩
        rw [pd]
        show rdep rs j = rdep rs i - 1 + 1
        omega
      · obtain ⟨l', rfl⟩ : ∃ l', l = l' + 1 := ⟨l - 1, by omega⟩
        rw [Bool.eq_false_iff]; intro g
        have k := ((kid_iff hD (show par (dp rs) (i + 1) < rs.length + 1 by omega) (show l' + 1 < rs.length + 1 by omega)).1 g).2.2
        rw [pd] at k
        have := c l' (by omega) (by omega)
        simp only [decide_eq_false_iff_not] at this
        have k' : rdep rs l' = rdep rs i - 1 + 1 := k
        omega
    · left
      have hj : j = q := by
        rcases Nat.lt_or_ge q j with g | g
        · have := p3 (j + 1) (by omega) (by omega)
          have t : rdep rs i ≤ rdep rs j := this
          omega
        · omega
      refine ⟨?_, by simp only; rw [if_neg ej]⟩
      unfold ah
      refine lstBelow_mk_none _ _ (fun l hl => ?_)
      rw [Bool.eq_false_iff]; intro g
      have k := (kid_iff hD (show par (dp rs) (i + 1) < rs.length + 1 by omega) (show l < rs.length + 1 by omega)).1 g
      obtain ⟨l', rfl⟩ : ∃ l', l = l' + 1 := ⟨l - 1, by omega⟩
      have := c l' (by omega) (by omega)
      simp only [decide_eq_false_iff_not] at this
      have k' : rdep rs l' = dp rs (par (dp rs) (i + 1)) + 1 := k.2.2
      rw [pd] at k'
      have : dp rs (i + 1) = rdep rs i := rfl
      omega
theorem ahB_iff {rs : List RowD} {id : Int} (h : hasB rs id = true) : ahB rs id = !rootB id := by simp [ahB, h]
theorem root_at {rs : List RowD} {id : Int} (h : hasB rs id = true) : ((rat rs (atN rs id)).dep == 0) = rootB id := by
  obtain ⟨h1, h2⟩ := hasB_iff.1 h
  have h3 := rok_root ((treeP_of h1).rok _ h2)
  rw [atN_id h2] at h3
  rw [Bool.eq_iff_iff, beq_iff_eq]; exact h3
theorem implTreeAhead_any (B : Nat) (a : Option Addr) (cap : Nat) (rs : List RowD) (id : Int) (w : World) (hB : B ≤ w.heap.size) (h : RowsAt B w a rs) (hf : Fit rs) (ht : Tab w) :
    Calls Tryd.prog 25 #[.slice a rs.length cap, .int .i64 id] w (RetBelow (.tuple #[.int .i64 (ahI rs id), .bool (ahB rs id)]) w) := by
  cases hh : hasB rs id
  · have e1 : ahB rs id = false := by simp [ahB, hh]
    have e2 : ahI rs id = 0 := by simp [ahI, e1]
    have HF := Lib.hid (fnd_no hh)
    rw [e1, e2]
    clear e1 e2 hh
    go_enter Tryd.func25, Tryd.ntmps25
    go_wp2_with fail
    refine (treeOf_any B _ _ _ _ hB h hf ht).mono ?_
    rintro e w1 ⟨nb, rfl, _, hN, hb1⟩
    go_wp2_with fail
    refine (find_any nb rs id w1 hN).mono ?_
    rintro e w2 ⟨rfl, hb2⟩
    rw [HF.out]
    simp only [padr]
    go_wp2
    go_ret2
    exact ⟨rfl, hb1.trans (hb2.mono hb1.size)⟩
  · have HF := Lib.hid (fnd_yes hh)
    obtain ⟨htb, hat⟩ := hasB_iff.1 hh
    have hP := treeP_of htb
    have HM := Lib.hid (nodesN_tree htb)
    have hra := root_at hh
    have e1 := ahB_iff hh
    have hlo := (rok_dep (hP.rok _ hat)).1
    cases hr : rootB id
    · rw [hr] at hra e1
      have e1' : ahB rs id = true := e1
      have e2 : ahI rs id = ahAt rs (atN rs id) := by simp [ahI, e1']
      rw [e1', e2]
      clear e1 e1' e2
      have hd0 : (rat rs (atN rs id)).dep ≠ 0 := by simpa using hra
      have hd1 : 1 ≤ (rat rs (atN rs id)).dep := by omega
      clear hd0
      rcases ah_shift hP hat hd1 with ⟨s1, s2⟩ | ⟨j, hj, s1, s2⟩
      · rw [s2]
        have HU : Hid (ahO rs (atN rs id + 1) = none) := by unfold Hid ahO; rw [if_neg (by omega)]; exact s1
        clear s1 s2 hP htb hh
        go_enter Tryd.func25, Tryd.ntmps25
        go_wp2_with fail
        refine (treeOf_any B _ _ _ _ hB h hf ht).mono ?_
        rintro e w1 ⟨nb, rfl, _, hN, hb1⟩
        go_wp2_with fail
        refine (find_any nb rs id w1 hN).mono ?_
        rintro e w2 ⟨rfl, hb2⟩
        rw [HF.out]
        simp only [padr]
        have hN2 : Nodes w2 nb rs (nodesN rs) := hN.below hb2
        rw [HM.out] at hN2
        have l4 := (hN2.links (show atN rs id + 1 < rs.length + 1 by omega)).2.1
        rw [HU.out] at l4
        simp only [padr] at l4
        have r1 : w2.cell? ⟨nb (atN rs id + 1), 1, none⟩ = some (.int .i64 (rat rs (atN rs id)).dep) := (hN2.row (show atN rs id + 1 < rs.length + 1 by omega)).2.1
        clear hN hN2 hd1
        go_wp2
        go_ret2
        exact ⟨rfl, hb1.trans (hb2.mono hb1.size)⟩
      · rw [s2]
        have HU : Hid (ahO rs (atN rs id + 1) = some (j + 1)) := by unfold Hid ahO; rw [if_neg (by omega)]; exact s1
        clear s1 s2 hP htb hh
        go_enter Tryd.func25, Tryd.ntmps25
        go_wp2_with fail
        refine (treeOf_any B _ _ _ _ hB h hf ht).mono ?_
        rintro e w1 ⟨nb, rfl, _, hN, hb1⟩
        go_wp2_with fail
        refine (find_any nb rs id w1 hN).mono ?_
        rintro e w2 ⟨rfl, hb2⟩
        rw [HF.out]
        simp only [padr]
        have hN2 : Nodes w2 nb rs (nodesN rs) := hN.below hb2
        rw [HM.out] at hN2
        have l4 := (hN2.links (show atN rs id + 1 < rs.length + 1 by omega)).2.1
        rw [HU.out] at l4
        simp only [padr] at l4
        have r1 : w2.cell? ⟨nb (atN rs id + 1), 1, none⟩ = some (.int .i64 (rat rs (atN rs id)).dep) := (hN2.row (show atN rs id + 1 < rs.length + 1 by omega)).2.1
        have r2 : w2.cell? ⟨nb (j + 1), 0, none⟩ = some (.int .i64 (rat rs j).id) := (hN2.row (show j + 1 < rs.length + 1 by omega)).1
        clear hN hN2 hd1
        go_wp2
        go_ret2
        exact ⟨rfl, hb1.trans (hb2.mono hb1.size)⟩
    · rw [hr] at hra e1
      have e1' : ahB rs id = false := e1
      have e2 : ahI rs id = 0 := by simp [ahI, e1']
      rw [e1', e2]
      clear e1 e1' e2 hP htb hh
      go_enter Tryd.func25, Tryd.ntmps25
      go_wp2_with fail
      refine (treeOf_any B _ _ _ _ hB h hf ht).mono ?_
      rintro e w1 ⟨nb, rfl, _, hN, hb1⟩
      go_wp2_with fail
      refine (find_any nb rs id w1 hN).mono ?_
      rintro e w2 ⟨rfl, hb2⟩
      rw [HF.out]
      simp only [padr]
      have hN2 : Nodes w2 nb rs (nodesN rs) := hN.below hb2
      rw [HM.out] at hN2
      have r1 : w2.cell? ⟨nb (atN rs id + 1), 1, none⟩ = some (.int .i64 (rat rs (atN rs id)).dep) := (hN2.row (show atN rs id + 1 < rs.length + 1 by omega)).2.1
      clear hN hN2
      go_wp2
      go_ret2
      exact ⟨rfl, hb1.trans (hb2.mono hb1.size)⟩
end Go.Proofs.YtiigkjpabbgnpaaDoor
