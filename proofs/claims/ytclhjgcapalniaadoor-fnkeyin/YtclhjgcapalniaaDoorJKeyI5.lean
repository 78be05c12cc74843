/-
  Contracts of the program's KeyIn, KeyOut and KeyGone: they answer as the model's. Conditions: the rows lie in memory as a slice of rows; the table 'creators' holds what its initialiser lays.
-/
import Derived.Test.YtclhjgcapalniaaDoorJKeyI4
import Derived.Test.YtclhjgcapalniaaDoorJKeyS1
import Derived.Test.YtclhjgcapalniaaDoorJKeyS2
namespace Go.Proofs.YtclhjgcapalniaaDoor
open Go.ChangeShapes Go.WideShapes Go.ChangeAt Go.RowKit Go.Joins

theorem rootB_made {rs : List RowD} {id : Int} (h : hasB rs id = true) : rootB id = !madeB id := by
  obtain ⟨h1, h2⟩ := hasB_iff.1 h
  rw [← root_at h, dep_made h1 h2, atN_id h2]
theorem press0 (B : Nat) (a : Option Addr) (cap : Nat) (rs : List RowD) (id : Int) (w : World) (hB : B ≤ w.heap.size) (h : RowsAt B w a rs) (hf : Fit rs) (ht : Tab w) :
    Calls Tryd.prog 43 #[.int .i64 0, .slice a rs.length cap, .int .i64 id] w (RetBelow (keyV (kinO rs id) (kinB rs id)) w) := by
  cases hh : hasB rs id
  · have e1 : kinB rs id = false := by simp [kinB, ahB, hh]
    have e2 : kinO rs id = kz := by simp [kinO, e1]
    rw [e1, e2]; exact press_gone B a cap rs id w hB h hf ht 0 hh
  · have hr := rootB_made hh
    cases hm : madeB id
    · rw [hm] at hr
      have e1 : kinB rs id = false := by simp [kinB, ahB, hr]
      have e2 : kinO rs id = kz := by simp [kinO, e1]
      rw [e1, e2]; exact press_root B a cap rs id w hB h hf ht 0 hh hm
    · rw [hm] at hr
      have eB : ahB rs id = true := by simp [ahB, hh, hr]
      have eI : ahI rs id = ahAt rs (atN rs id) := by simp [ahI, eB]
      cases hb : (ahAt rs (atN rs id) != 0)
      · have e1 : kinB rs id = false := by unfold kinB; rw [eI, hb]; simp
        have e2 : kinO rs id = kz := by simp [kinO, e1]
        rw [e1, e2]; exact press_in_no B a cap rs id w hB h hf ht hh hm hb
      · have e1 : kinB rs id = true := by unfold kinB; rw [eI, hb, eB]; rfl
        have e3 : inA rs (atN rs id) = lastK rs (ahAt rs (atN rs id)) := by unfold inA; rw [if_neg (by simpa using hb)]
        have e2 : kinO rs id = moveO id (ahAt rs (atN rs id)) (inA rs (atN rs id)) := by unfold kinO; rw [e1, if_pos rfl, eI, e3]
        rw [e1, e2]; exact press_in_yes B a cap rs id w hB h hf ht hh hm hb
theorem press1 (B : Nat) (a : Option Addr) (cap : Nat) (rs : List RowD) (id : Int) (w : World) (hB : B ≤ w.heap.size) (h : RowsAt B w a rs) (hf : Fit rs) (ht : Tab w) :
    Calls Tryd.prog 43 #[.int .i64 1, .slice a rs.length cap, .int .i64 id] w (RetBelow (keyV (koutO rs id) (koutB rs id)) w) := by
  cases hh : hasB rs id
  · have e1 : koutB rs id = false := by simp [koutB, hh]
    have e2 : koutO rs id = kz := by simp [koutO, e1]
    rw [e1, e2]; exact press_gone B a cap rs id w hB h hf ht 1 hh
  · cases hm : madeB id
    · have e1 : koutB rs id = false := by simp [koutB, hm]
      have e2 : koutO rs id = kz := by simp [koutO, e1]
      rw [e1, e2]; exact press_root B a cap rs id w hB h hf ht 1 hh hm
    · obtain ⟨htb, hat⟩ := hasB_iff.1 hh
      have eI : upI rs id = upAt rs (atN rs id) := by simp [upI, hh]
      cases hb : madeB (upAt rs (atN rs id))
      · have e1 : koutB rs id = false := by unfold koutB; rw [eI, hb]; simp
        have e2 : koutO rs id = kz := by simp [koutO, e1]
        rw [e1, e2]; exact press_out_no B a cap rs id w hB h hf ht hh hm hb
      · have e1 : koutB rs id = true := by unfold koutB; rw [eI, hb, hh, hm]; rfl
        obtain ⟨u, hu, _, eu, _⟩ := par_row htb hat (made_dep htb hat (by rw [atN_id hat]; exact hm))
        have hau := (treeP_of htb).at_self (show u < rs.length by omega)
        have hh2 : hasB rs (upAt rs (atN rs id)) = true := hasB_iff.2 ⟨htb, by rw [eu, hau]; omega⟩
        have e3 : outU rs (atN rs id) = upI rs (upAt rs (atN rs id)) := by unfold outU upI; rw [hb, hh2]
        have e4 : outA rs (atN rs id) = upAt rs (atN rs id) := by unfold outA; rw [hb]; rfl
        have e2 : koutO rs id = moveO id (outU rs (atN rs id)) (outA rs (atN rs id)) := by unfold koutO; rw [e1, if_pos rfl, eI, e3, e4]
        rw [e1, e2]; exact press_out_yes B a cap rs id w hB h hf ht hh hm hb
theorem press2 (B : Nat) (a : Option Addr) (cap : Nat) (rs : List RowD) (id : Int) (w : World) (hB : B ≤ w.heap.size) (h : RowsAt B w a rs) (hf : Fit rs) (ht : Tab w) :
    Calls Tryd.prog 43 #[.int .i64 2, .slice a rs.length cap, .int .i64 id] w (RetBelow (keyV (kgoneO rs id) (kgoneB rs id)) w) := by
  cases hh : hasB rs id
  · have e1 : kgoneB rs id = false := by
      unfold kgoneB thereB
      cases g : treeB rs
      · rfl
      · have : ¬ atN rs id < rs.length := fun q => by rw [hasB_iff.2 ⟨g, q⟩] at hh; cases hh
        simp [this]
    have e2 : kgoneO rs id = kz := by simp [kgoneO, e1]
    rw [e1, e2]; exact press_gone B a cap rs id w hB h hf ht 2 hh
  · obtain ⟨htb, hat⟩ := hasB_iff.1 hh
    cases hm : madeB id
    · have e1 : kgoneB rs id = false := by simp [kgoneB, hm]
      have e2 : kgoneO rs id = kz := by simp [kgoneO, e1]
      rw [e1, e2]; exact press_root B a cap rs id w hB h hf ht 2 hh hm
    · cases hb : undB rs id 2
      · have e1 : kgoneB rs id = true := by simp [kgoneB, htb, hm, thereB, hat, hb]
        have e2 : kgoneO rs id = moveO id 2 0 := by simp [kgoneO, e1]
        rw [e1, e2]; exact press_away_yes B a cap rs id w hB h hf ht hh hm hb
      · have e1 : kgoneB rs id = false := by simp [kgoneB, hb]
        have e2 : kgoneO rs id = kz := by simp [kgoneO, e1]
        rw [e1, e2]; exact press_away_no B a cap rs id w hB h hf ht hh hm hb
set_option maxRecDepth 100000 in
theorem implKeyIn_any (B : Nat) (a : Option Addr) (cap : Nat) (rs : List RowD) (id : Int) (w : World) (hB : B ≤ w.heap.size) (h : RowsAt B w a rs) (hf : Fit rs) (ht : Tab w) :
    Calls Tryd.prog 10 #[.slice a rs.length cap, .int .i64 id] w (RetBelow (keyV (kinO rs id) (kinB rs id)) w) := by
  have hk0 := KSt.start hB h
  have HC := Lib.hid (press0 _ _ cap _ id _ (Nat.le_refl _) hk0.rows hf (ht.below hk0.b ht.pos))
  generalize kinO rs id = o at *
  generalize kinB rs id = b at *
  simp only [keyV] at HC ⊢
  go_enter Tryd.func10, Tryd.ntmps10
  go_wp2_with fail
  refine HC.out.mono ?_
  rintro e w1 ⟨rfl, hb1⟩
  have hk1 := hk0.step hb1
  obtain ⟨d0, d1, d2, d3, d4⟩ := hk1.box.cells
  have y0 := hk1.box.frozen 0
  have y1 := hk1.box.frozen 1
  have y2 := hk1.box.frozen 2
  have y3 := hk1.box.frozen 3
  have y4 := hk1.box.frozen 4
  have HP := Lib.hid (hk1.post o)
  clear hk1 hk0 hb1
  go_wp2
  exact bodyPost_ret (by simp [results, Tryd.results10, go_sem, d0, d1, d2, d3, d4]) rfl ⟨rfl, HP.out⟩
end Go.Proofs.YtclhjgcapalniaaDoor
