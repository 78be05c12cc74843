/-
  Contract of the model's KeyIn. Conditions: the rows lie in memory as a slice of rows.
-/
import Derived.Test.YtclhjgcapalniaaDoorJKeyS
namespace Go.Proofs.YtclhjgcapalniaaDoor
open Go.ChangeShapes Go.WideShapes Go.ChangeAt Go.RowKit Go.Joins

theorem kids_len {rs : List RowD} {id : Int} (hl : rs.length ≤ 1048576) : (kidsL rs id).length ≤ 1048576 := by
  unfold kidsL
  split
  · rename_i h
    have := kidsOf_len rs (atN rs id) (enR rs (atN rs id) - (atN rs id + 1)) (atN rs id + 1)
    have e : enR rs (atN rs id) ≤ rs.length := (en_spec (D := rdep rs) h).2.1
    unfold kidsAt; omega
  · simp
set_option maxRecDepth 100000 in
set_option maxHeartbeats 1000000 in
theorem specKeyIn_any (B : Nat) (a : Option Addr) (cap : Nat) (rs : List RowD) (id : Int) (w : World) (hB : B ≤ w.heap.size) (h : RowsAt B w a rs) (hf : Fit rs) :
    Calls Tryd.prog 9 #[.slice a rs.length cap, .int .i64 id] w (RetBelow (keyV (kinO rs id) (kinB rs id)) w) := by
  have hl := hf.1
  cases hb : ahB rs id
  · have e1 : kinB rs id = false := by simp [kinB, hb]
    have e2 : kinO rs id = kz := by simp [kinO, e1]
    rw [e1, e2]
    clear e1 e2
    have hk0 := KSt.start hB h
    go_enter Tryd.func9, Tryd.ntmps9
    go_wp2_with fail
    refine (specTreeAhead_any _ _ _ _ _ _ (Nat.le_refl _) hk0.rows hf).mono ?_
    rintro e w1 ⟨rfl, hb1⟩
    have hk1 := hk0.step hb1
    clear hk0 hb1
    rw [hb]
    obtain ⟨d0, d1, d2, d3, d4⟩ := hk1.box.cells
    have y0 := hk1.box.frozen 0
    have y1 := hk1.box.frozen 1
    have y2 := hk1.box.frozen 2
    have y3 := hk1.box.frozen 3
    have y4 := hk1.box.frozen 4
    have HP := Lib.hid (hk1.post (kz))
    clear hk1
    go_wp2
    exact bodyPost_ret (by simp [results, Tryd.results9, go_sem, d0, d1, d2, d3, d4, keyV, kz]) rfl ⟨rfl, HP.out⟩
  · have htb : treeB rs = true := by
      cases g : treeB rs
      · simp [ahB, hasB, g] at hb
      · rfl
    by_cases h0 : ahI rs id = 0
    · have e1 : kinB rs id = false := by simp [kinB, h0]
      have e2 : kinO rs id = kz := by simp [kinO, e1]
      rw [e1, e2]
      clear e1 e2
      have hk0 := KSt.start hB h
      go_enter Tryd.func9, Tryd.ntmps9
      go_wp2_with fail
      refine (specTreeAhead_any _ _ _ _ _ _ (Nat.le_refl _) hk0.rows hf).mono ?_
      rintro e w1 ⟨rfl, hb1⟩
      have hk1 := hk0.step hb1
      clear hk0 hb1
      rw [hb, h0]
      obtain ⟨d0, d1, d2, d3, d4⟩ := hk1.box.cells
      have y0 := hk1.box.frozen 0
      have y1 := hk1.box.frozen 1
      have y2 := hk1.box.frozen 2
      have y3 := hk1.box.frozen 3
      have y4 := hk1.box.frozen 4
      have HP := Lib.hid (hk1.post (kz))
      clear hk1
      go_wp2
      exact bodyPost_ret (by simp [results, Tryd.results9, go_sem, d0, d1, d2, d3, d4, keyV, kz]) rfl ⟨rfl, HP.out⟩
    · have e1 : kinB rs id = true := by simp [kinB, hb, h0]
      have e2 : kinO rs id = moveO id (ahI rs id) ((kidsL rs (ahI rs id)).getD ((kidsL rs (ahI rs id)).length - 1) 0) := by simp [kinO, e1, lastK]
      rw [e1, e2]
      clear e1 e2
      have hkl := kids_len (rs := rs) (id := ahI rs id) hl
      have HS := Lib.hid (treeP_small htb)
      obtain ⟨u, hu⟩ : ∃ u, ahI rs id = u := ⟨_, rfl⟩
      rw [hu] at hkl h0 ⊢
      obtain ⟨ks, hks⟩ : ∃ ks, kidsL rs u = ks := ⟨_, rfl⟩
      rw [hks] at hkl ⊢
      have HK := Lib.hid hks
      have HU := Lib.hid hu
      clear hks hu
      by_cases hk : ks.length = 0
      · obtain rfl : ks = [] := List.length_eq_zero_iff.1 hk
        have hk0 := KSt.start hB h
        go_enter Tryd.func9, Tryd.ntmps9
        go_wp2_with fail
        refine (specTreeAhead_any _ _ _ _ _ _ (Nat.le_refl _) hk0.rows hf).mono ?_
        rintro e w1 ⟨rfl, hb1⟩
        have hk1 := hk0.step hb1
        clear hk0 hb1
        rw [hb, HU.out]
        go_wp2_with fail
        refine (l2Kids_any w1.heap.size _ _ _ _ _ (Nat.le_refl _) hk1.rows hf HS.out).mono ?_
        rintro e w2 ⟨v, rfl, own, hb2⟩
        rw [HK.out] at own
        have hk2 := hk1.step hb2
        clear hk1 hb2
        obtain ⟨ka, kc, rfl, hkc⟩ := own_slice own
        clear own
        go_wp2_with fail
        refine (l11Move_any _ _ _ _).mono ?_
        rintro e w3 ⟨rfl, hb3⟩
        have hk3 := hk2.step hb3
        clear hk2 hb3
        obtain ⟨d0, d1, d2, d3, d4⟩ := hk3.box.cells
        have y0 := hk3.box.frozen 0
        have y1 := hk3.box.frozen 1
        have y2 := hk3.box.frozen 2
        have y3 := hk3.box.frozen 3
        have y4 := hk3.box.frozen 4
        have HP := Lib.hid (hk3.post (moveO id u 0))
        clear hk3
        go_wp2
        exact bodyPost_ret (by simp [results, Tryd.results9, go_sem, d0, d1, d2, d3, d4, keyV, moveO]) rfl ⟨rfl, HP.out⟩
      · obtain ⟨n, hn⟩ : ∃ n, ks.length = n + 1 := ⟨ks.length - 1, by omega⟩
        rw [hn, Nat.add_sub_cancel]
        obtain ⟨z, hz⟩ : ∃ z, ks.getD n 0 = z := ⟨_, rfl⟩
        rw [hz]
        have hk0 := KSt.start hB h
        go_enter Tryd.func9, Tryd.ntmps9
        go_wp2_with fail
        refine (specTreeAhead_any _ _ _ _ _ _ (Nat.le_refl _) hk0.rows hf).mono ?_
        rintro e w1 ⟨rfl, hb1⟩
        have hk1 := hk0.step hb1
        clear hk0 hb1
        rw [hb, HU.out]
        go_wp2_with fail
        refine (l2Kids_any w1.heap.size _ _ _ _ _ (Nat.le_refl _) hk1.rows hf HS.out).mono ?_
        rintro e w2 ⟨v, rfl, own, hb2⟩
        rw [HK.out] at own
        have hk2 := hk1.step hb2
        clear hk1 hb2
        obtain ⟨ka, kc, rfl, hkc⟩ := own_slice own
        obtain ⟨g, rfl, hg, hc⟩ := (ints_of_own own).low.at_ (show n < ks.length by omega)
        rw [hz] at hc
        rw [hn] at hkl hkc ⊢
        clear own hk hz
        go_wp2_with fail
        refine (l11Move_any _ _ _ _).mono ?_
        rintro e w3 ⟨rfl, hb3⟩
        have hk3 := hk2.step hb3
        clear hk2 hb3
        obtain ⟨d0, d1, d2, d3, d4⟩ := hk3.box.cells
        have y0 := hk3.box.frozen 0
        have y1 := hk3.box.frozen 1
        have y2 := hk3.box.frozen 2
        have y3 := hk3.box.frozen 3
        have y4 := hk3.box.frozen 4
        have HP := Lib.hid (hk3.post (moveO id u z))
        clear hk3
        go_wp2
        exact bodyPost_ret (by simp [results, Tryd.results9, go_sem, d0, d1, d2, d3, d4, keyV, moveO]) rfl ⟨rfl, HP.out⟩
end Go.Proofs.YtclhjgcapalniaaDoor
