/-
  Contracts of the model's KeyOut and KeyGone. Conditions: the rows lie in memory as a slice of rows.
-/
import Derived.Test.YtefelnodahcolaaDoorKeyS
namespace Go.Proofs.YtefelnodahcolaaDoor
open Go.ChangeShapes Go.WideShapes Go.ChangeAt Go.RowKit Go.Joins

theorem upAt_I64 {rs : List RowD} (hf : Fit rs) (i : Nat) (hi : i ≤ rs.length) : I64 (upAt rs i) := by
  unfold upAt
  split
  · rename_i j e
    have := (lstBelow_some _ _ _ e).1
    exact (hf.2 j (by omega)).1
  · exact ⟨by decide, by decide⟩
theorem upI_I64 {rs : List RowD} (hf : Fit rs) (id : Int) : I64 (upI rs id) := by
  unfold upI
  split
  · exact upAt_I64 hf _ (atN_le _ _)
  · exact ⟨by decide, by decide⟩
set_option maxRecDepth 100000 in
set_option maxHeartbeats 1000000 in
theorem specKeyOut_any (B : Nat) (a : Option Addr) (cap : Nat) (rs : List RowD) (id : Int) (w : World) (hB : B ≤ w.heap.size) (h : RowsAt B w a rs) (hf : Fit rs) (hI : I64 id) :
    Calls Tryd.prog 13 #[.slice a rs.length cap, .int .i64 id] w (RetBelow (keyV (koutO rs id) (koutB rs id)) w) := by
  have HU := Lib.hid (upI_I64 hf id)
  cases hb : hasB rs id
  · have e1 : koutB rs id = false := by simp [koutB, hb]
    have e2 : koutO rs id = kz := by simp [koutO, e1]
    rw [e1, e2]
    clear e1 e2
    have hk0 := KSt.start hB h
    go_enter Tryd.func13, Tryd.ntmps13
    go_wp2_with fail
    refine (specTreeUp_any _ _ _ _ _ _ (Nat.le_refl _) hk0.rows hf).mono ?_
    rintro e w1 ⟨rfl, hb1⟩
    have hk1 := hk0.step hb1
    clear hk0 hb1
    rw [hb]
    obtain ⟨d0, d1, d2, d3, d4⟩ := hk1.box.cells
    have y0 := hk1.box.frozen 0
    have y1 := hk1.box.frozen 1
    have y2 := hk1.box.frozen 2
    have y3 := hk1.box.frozen 3
    have y4 := hk1.box.frozen 4
    have HP := Lib.hid (hk1.post (kz))
    clear hk1
    go_wp2
    exact bodyPost_ret (by simp [results, Tryd.results13, go_sem, d0, d1, d2, d3, d4, keyV, kz]) rfl ⟨rfl, HP.out⟩
  · cases hm : madeB id
    · have e1 : koutB rs id = false := by simp [koutB, hm]
      have e2 : koutO rs id = kz := by simp [koutO, e1]
      rw [e1, e2]
      clear e1 e2
      have hk0 := KSt.start hB h
      go_enter Tryd.func13, Tryd.ntmps13
      go_wp2_with fail
      refine (specTreeUp_any _ _ _ _ _ _ (Nat.le_refl _) hk0.rows hf).mono ?_
      rintro e w1 ⟨rfl, hb1⟩
      have hk1 := hk0.step hb1
      clear hk0 hb1
      rw [hb]
      go_wp2_with fail
      refine (l1Made_any _ _ hI).mono ?_
      rintro e w' ⟨rfl, rfl⟩
      rw [hm]
      obtain ⟨d0, d1, d2, d3, d4⟩ := hk1.box.cells
      have y0 := hk1.box.frozen 0
      have y1 := hk1.box.frozen 1
      have y2 := hk1.box.frozen 2
      have y3 := hk1.box.frozen 3
      have y4 := hk1.box.frozen 4
      have HP := Lib.hid (hk1.post (kz))
      clear hk1
      go_wp2
      exact bodyPost_ret (by simp [results, Tryd.results13, go_sem, d0, d1, d2, d3, d4, keyV, kz]) rfl ⟨rfl, HP.out⟩
    · cases hu : madeB (upI rs id)
      · have e1 : koutB rs id = false := by simp [koutB, hu]
        have e2 : koutO rs id = kz := by simp [koutO, e1]
        rw [e1, e2]
        clear e1 e2
        have hk0 := KSt.start hB h
        go_enter Tryd.func13, Tryd.ntmps13
        go_wp2_with fail
        refine (specTreeUp_any _ _ _ _ _ _ (Nat.le_refl _) hk0.rows hf).mono ?_
        rintro e w1 ⟨rfl, hb1⟩
        have hk1 := hk0.step hb1
        clear hk0 hb1
        rw [hb]
        go_wp2_with fail
        refine (l1Made_any _ _ hI).mono ?_
        rintro e w' ⟨rfl, rfl⟩
        rw [hm]
        go_wp2_with fail
        refine (l1Made_any _ _ HU.out).mono ?_
        rintro e w' ⟨rfl, rfl⟩
        rw [hu]
        obtain ⟨d0, d1, d2, d3, d4⟩ := hk1.box.cells
        have y0 := hk1.box.frozen 0
        have y1 := hk1.box.frozen 1
        have y2 := hk1.box.frozen 2
        have y3 := hk1.box.frozen 3
        have y4 := hk1.box.frozen 4
        have HP := Lib.hid (hk1.post (kz))
        clear hk1
        go_wp2
        exact bodyPost_ret (by simp [results, Tryd.results13, go_sem, d0, d1, d2, d3, d4, keyV, kz]) rfl ⟨rfl, HP.out⟩
      · have e1 : koutB rs id = true := by simp [koutB, hb, hm, hu]
        have e2 : koutO rs id = moveO id (upI rs (upI rs id)) (upI rs id) := by simp [koutO, e1]
        rw [e1, e2]
        clear e1 e2
        have hk0 := KSt.start hB h
        go_enter Tryd.func13, Tryd.ntmps13
        go_wp2_with fail
        refine (specTreeUp_any _ _ _ _ _ _ (Nat.le_refl _) hk0.rows hf).mono ?_
        rintro e w1 ⟨rfl, hb1⟩
        have hk1 := hk0.step hb1
        clear hk0 hb1
        rw [hb]
        generalize upI rs id = u at *
        go_wp2_with fail
        refine (l1Made_any _ _ hI).mono ?_
        rintro e w' ⟨rfl, rfl⟩
        rw [hm]
        go_wp2_with fail
        refine (l1Made_any _ _ HU.out).mono ?_
        rintro e w' ⟨rfl, rfl⟩
        rw [hu]
        go_wp2_with fail
        refine (specTreeUp_any _ _ _ _ _ _ (Nat.le_refl _) hk1.rows hf).mono ?_
        rintro e w2 ⟨rfl, hb2⟩
        have hk2 := hk1.step hb2
        clear hk1 hb2
        generalize upI rs u = v at *
        generalize hasB rs u = ok at *
        go_wp2_with fail
        refine (l11Move_any _ _ _ _).mono ?_
        rintro e w3 ⟨rfl, hb3⟩
        have hk3 := hk2.step hb3
        clear hk2 hb3
        obtain ⟨d0, d1, d2, d3, d4⟩ := hk3.box.cells
        have y0 := hk3.box.frozen 0
        have y1 := hk3.box.frozen 1
        have y2 := hk3.box.frozen 2
        have y3 := hk3.box.frozen 3
        have y4 := hk3.box.frozen 4
        have HP := Lib.hid (hk3.post (moveO id v u))
        clear hk3
        go_wp2
        exact bodyPost_ret (by simp [results, Tryd.results13, go_sem, d0, d1, d2, d3, d4, keyV, moveO]) rfl ⟨rfl, HP.out⟩
set_option maxRecDepth 100000 in
set_option maxHeartbeats 1000000 in
theorem specKeyGone_any (B : Nat) (a : Option Addr) (cap : Nat) (rs : List RowD) (id : Int) (w : World) (hB : B ≤ w.heap.size) (h : RowsAt B w a rs) (hf : Fit rs) (hI : I64 id) :
    Calls Tryd.prog 15 #[.slice a rs.length cap, .int .i64 id] w (RetBelow (keyV (kgoneO rs id) (kgoneB rs id)) w) := by
  cases ht : treeB rs
  · have e1 : kgoneB rs id = false := by simp [kgoneB, ht]
    have e2 : kgoneO rs id = kz := by simp [kgoneO, e1]
    rw [e1, e2]
    clear e1 e2
    have hk0 := KSt.start hB h
    go_enter Tryd.func15, Tryd.ntmps15
    go_wp2_with fail
    refine (specTreeOk_any _ _ _ _ _ (Nat.le_refl _) hk0.rows hf).mono ?_
    rintro e w1 ⟨rfl, hb1⟩
    have hk1 := hk0.step hb1
    clear hk0 hb1
    rw [ht]
    obtain ⟨d0, d1, d2, d3, d4⟩ := hk1.box.cells
    have y0 := hk1.box.frozen 0
    have y1 := hk1.box.frozen 1
    have y2 := hk1.box.frozen 2
    have y3 := hk1.box.frozen 3
    have y4 := hk1.box.frozen 4
    have HP := Lib.hid (hk1.post (kz))
    clear hk1
    go_wp2
    exact bodyPost_ret (by simp [results, Tryd.results15, go_sem, d0, d1, d2, d3, d4, keyV, kz]) rfl ⟨rfl, HP.out⟩
  · cases hm : madeB id
    · have e1 : kgoneB rs id = false := by simp [kgoneB, hm]
      have e2 : kgoneO rs id = kz := by simp [kgoneO, e1]
      rw [e1, e2]
      clear e1 e2
      have hk0 := KSt.start hB h
      go_enter Tryd.func15, Tryd.ntmps15
      go_wp2_with fail
      refine (specTreeOk_any _ _ _ _ _ (Nat.le_refl _) hk0.rows hf).mono ?_
      rintro e w1 ⟨rfl, hb1⟩
      have hk1 := hk0.step hb1
      clear hk0 hb1
      rw [ht]
      go_wp2_with fail
      refine (l1Made_any _ _ hI).mono ?_
      rintro e w' ⟨rfl, rfl⟩
      rw [hm]
      obtain ⟨d0, d1, d2, d3, d4⟩ := hk1.box.cells
      have y0 := hk1.box.frozen 0
      have y1 := hk1.box.frozen 1
      have y2 := hk1.box.frozen 2
      have y3 := hk1.box.frozen 3
      have y4 := hk1.box.frozen 4
      have HP := Lib.hid (hk1.post (kz))
      clear hk1
      go_wp2
      exact bodyPost_ret (by simp [results, Tryd.results15, go_sem, d0, d1, d2, d3, d4, keyV, kz]) rfl ⟨rfl, HP.out⟩
    · cases hh : thereB rs id
      · have HA : Hid (atI rs id = -1) := by
          rcases atI_cases rs id with ⟨g, _⟩ | ⟨_, g⟩
          · simp [thereB, g] at hh
          · exact g
        have e1 : kgoneB rs id = false := by simp [kgoneB, hh]
        have e2 : kgoneO rs id = kz := by simp [kgoneO, e1]
        rw [e1, e2]
        clear e1 e2
        have hk0 := KSt.start hB h
        go_enter Tryd.func15, Tryd.ntmps15
        go_wp2_with fail
        refine (specTreeOk_any _ _ _ _ _ (Nat.le_refl _) hk0.rows hf).mono ?_
        rintro e w1 ⟨rfl, hb1⟩
        have hk1 := hk0.step hb1
        clear hk0 hb1
        rw [ht]
        go_wp2_with fail
        refine (l1Made_any _ _ hI).mono ?_
        rintro e w' ⟨rfl, rfl⟩
        rw [hm]
        go_wp2_with fail
        refine (l2At_any _ _ _ _ _ _ hk1.rows hf).mono ?_
        rintro e w' ⟨rfl, rfl⟩
        rw [HA.out]
        obtain ⟨d0, d1, d2, d3, d4⟩ := hk1.box.cells
        have y0 := hk1.box.frozen 0
        have y1 := hk1.box.frozen 1
        have y2 := hk1.box.frozen 2
        have y3 := hk1.box.frozen 3
        have y4 := hk1.box.frozen 4
        have HP := Lib.hid (hk1.post (kz))
        clear hk1
        go_wp2
        exact bodyPost_ret (by simp [results, Tryd.results15, go_sem, d0, d1, d2, d3, d4, keyV, kz]) rfl ⟨rfl, HP.out⟩
      · have HA : Hid (atI rs id = (atN rs id : Int)) := by
          rcases atI_cases rs id with ⟨_, g⟩ | ⟨g, _⟩
          · exact g
          · simp [thereB, g] at hh
        cases hu : undB rs id 2
        · have e1 : kgoneB rs id = true := by simp [kgoneB, ht, hm, hh, hu]
          have e2 : kgoneO rs id = moveO id 2 0 := by simp [kgoneO, e1]
          rw [e1, e2]
          clear e1 e2
          have hk0 := KSt.start hB h
          go_enter Tryd.func15, Tryd.ntmps15
          go_wp2_with fail
          refine (specTreeOk_any _ _ _ _ _ (Nat.le_refl _) hk0.rows hf).mono ?_
          rintro e w1 ⟨rfl, hb1⟩
          have hk1 := hk0.step hb1
          clear hk0 hb1
          rw [ht]
          go_wp2_with fail
          refine (l1Made_any _ _ hI).mono ?_
          rintro e w' ⟨rfl, rfl⟩
          rw [hm]
          go_wp2_with fail
          refine (l2At_any _ _ _ _ _ _ hk1.rows hf).mono ?_
          rintro e w' ⟨rfl, rfl⟩
          rw [HA.out]
          generalize atN rs id = n at *
          go_wp2_with fail
          refine (l2Under_any _ _ _ _ _ _ _ (Nat.le_refl _) hk1.rows hf).mono ?_
          rintro e w2 ⟨rfl, hb2⟩
          have hk2 := hk1.step hb2
          clear hk1 hb2
          rw [hu]
          go_wp2_with fail
          refine (l11Move_any _ _ _ _).mono ?_
          rintro e w3 ⟨rfl, hb3⟩
          have hk3 := hk2.step hb3
          clear hk2 hb3
          obtain ⟨d0, d1, d2, d3, d4⟩ := hk3.box.cells
          have y0 := hk3.box.frozen 0
          have y1 := hk3.box.frozen 1
          have y2 := hk3.box.frozen 2
          have y3 := hk3.box.frozen 3
          have y4 := hk3.box.frozen 4
          have HP := Lib.hid (hk3.post (moveO id 2 0))
          clear hk3
          go_wp2
          exact bodyPost_ret (by simp [results, Tryd.results15, go_sem, d0, d1, d2, d3, d4, keyV, moveO]) rfl ⟨rfl, HP.out⟩
        · have e1 : kgoneB rs id = false := by simp [kgoneB, hu]
          have e2 : kgoneO rs id = kz := by simp [kgoneO, e1]
          rw [e1, e2]
          clear e1 e2
          have hk0 := KSt.start hB h
          go_enter Tryd.func15, Tryd.ntmps15
          go_wp2_with fail
          refine (specTreeOk_any _ _ _ _ _ (Nat.le_refl _) hk0.rows hf).mono ?_
          rintro e w1 ⟨rfl, hb1⟩
          have hk1 := hk0.step hb1
          clear hk0 hb1
          rw [ht]
          go_wp2_with fail
          refine (l1Made_any _ _ hI).mono ?_
          rintro e w' ⟨rfl, rfl⟩
          rw [hm]
          go_wp2_with fail
          refine (l2At_any _ _ _ _ _ _ hk1.rows hf).mono ?_
          rintro e w' ⟨rfl, rfl⟩
          rw [HA.out]
          generalize atN rs id = n at *
          go_wp2_with fail
          refine (l2Under_any _ _ _ _ _ _ _ (Nat.le_refl _) hk1.rows hf).mono ?_
          rintro e w2 ⟨rfl, hb2⟩
          have hk2 := hk1.step hb2
          clear hk1 hb2
          rw [hu]
          obtain ⟨d0, d1, d2, d3, d4⟩ := hk2.box.cells
          have y0 := hk2.box.frozen 0
          have y1 := hk2.box.frozen 1
          have y2 := hk2.box.frozen 2
          have y3 := hk2.box.frozen 3
          have y4 := hk2.box.frozen 4
          have HP := Lib.hid (hk2.post (kz))
          clear hk2
          go_wp2
          exact bodyPost_ret (by simp [results, Tryd.results15, go_sem, d0, d1, d2, d3, d4, keyV, kz]) rfl ⟨rfl, HP.out⟩
end Go.Proofs.YtefelnodahcolaaDoor
