/-
  Contracts of the program's inward and outward: where a command lets a row stand. Conditions: the nodes of an outline lie in memory.
-/
import Derived.Test.YtclhjgcapalniaaDoorJKeyI
namespace Go.Proofs.YtclhjgcapalniaaDoor
open Go.ChangeShapes Go.WideShapes Go.ChangeAt Go.RowKit Go.Joins

def spotV (u a : Int) (b : Bool) : Value := .tuple #[.agg #[.int .i64 u, .int .i64 a], .bool b]
/-- Block B is the box of a spot that is returned. -/
def SBox (w : World) (B : Nat) : Prop := w.heap[B]? = some (.cells #[.int .i64 0, .int .i64 0] 79 (0, 0))
theorem SBox.lt {w : World} {B : Nat} (h : SBox w B) : B < w.heap.size := (Array.getElem?_eq_some_iff.1 h).1
theorem SBox.cells {w : World} {B : Nat} (h : SBox w B) : w.cell? ⟨B, 0, none⟩ = some (.int .i64 0) ∧ w.cell? ⟨B, 1, none⟩ = some (.int .i64 0) := by
  refine ⟨?_, ?_⟩ <;> simp [World.cell?, show w.heap[B]? = _ from h]
theorem SBox.frozen {w : World} {B : Nat} (h : SBox w B) (k : Nat) : w.frozen? ⟨B, k, none⟩ = false := by simp [World.frozen?, show w.heap[B]? = _ from h]
theorem SBox.below {w w' : World} {B n : Nat} (h : SBox w B) (hb : Below n w w') (hn : B < n) : SBox w' B := (hb.block B hn).trans h
theorem SBox.new (w : World) : SBox (w.alloc (.cells #[.int .i64 0, .int .i64 0] 79)) w.heap.size := heap_alloc_new _ _
def sgiven (w : World) (B : Nat) (u a : Int) : World := (w.setCell ⟨B, 0, none⟩ (.int .i64 u)).setCell ⟨B, 1, none⟩ (.int .i64 a)
theorem sgiven_below {n : Nat} (w : World) (B : Nat) (u a : Int) (h : n ≤ B) : Below n w (sgiven w B u a) := by
  unfold sgiven
  exact ((Below.refl _ _).setCell (p := ⟨B, 0, none⟩) h _).setCell (p := ⟨B, 1, none⟩) h _
theorem made_dep {rs : List RowD} (ht : treeB rs = true) {k : Nat} (hk : k < rs.length) (hm : madeB (rat rs k).id = true) : 1 ≤ (rat rs k).dep := by
  rcases rok_cases ((treeP_of ht).rok k hk) with ⟨g, _⟩ | ⟨_, _, g, _⟩
  · have := (rootB_iff _).1 g; have := (madeB_iff _).1 hm; omega
  · exact g
def inA (rs : List RowD) (k : Nat) : Int := if ahAt rs k = 0 then 0 else lastK rs (ahAt rs k)
set_option maxRecDepth 100000 in
set_option maxHeartbeats 1000000 in
theorem inward_any (nb : Nat → Nat) (rs : List RowD) (k : Nat) (w : World) (ht : treeB rs = true) (hk : k < rs.length) (hm : madeB (rat rs k).id = true) (hN : Nodes w nb rs (rs.length + 1)) :
    Calls Tryd.prog 106 #[.pointer (some ⟨nb (k + 1), 0, none⟩)] w (RetBelow (spotV (ahAt rs k) (inA rs k) (ahAt rs k != 0)) w) := by
  have hT := treeP_of ht
  have hd1 := made_dep ht hk hm
  have hal : Below w.heap.size w (w.alloc (.cells #[.int .i64 0, .int .i64 0] 79)) := (Below.refl _ _).alloc (Nat.le_refl _) _
  have hN1 := hN.below hal
  have hN3 := hN.below hal.drew
  have hS1 : SBox (w.alloc (.cells #[.int .i64 0, .int .i64 0] 79)).drew w.heap.size := SBox.new w
  rcases ah_shift hT hk hd1 with ⟨s1, s2⟩ | ⟨j, hj, s1, s2⟩
  · have eA : inA rs k = 0 := by unfold inA; rw [s2, if_pos rfl]
    rw [eA, s2]
    have l4 := (hN1.links (show k + 1 < rs.length + 1 by omega)).2.1
    rw [show ahO rs (k + 1) = none by unfold ahO; rw [if_neg (by omega)]; exact s1] at l4
    simp only [padr] at l4
    clear hN hN1 hN3 s1 s2 eA
    go_enter Tryd.func106, Tryd.ntmps106
    go_wp2
    go_returns
    exact ⟨rfl, by go_grown⟩
  · have hjl : j < rs.length := by omega
    have hid := rok_id (hT.rok j hjl)
    have eB : (ahAt rs k != 0) = true := by rw [s2]; simp; omega
    have l4 := (hN1.links (show k + 1 < rs.length + 1 by omega)).2.1
    rw [show ahO rs (k + 1) = some (j + 1) by unfold ahO; rw [if_neg (by omega)]; exact s1] at l4
    have l7 := (hN3.links (show j + 1 < rs.length + 1 by omega)).2.2.2.2
    have r0 : (w.alloc (.cells #[.int .i64 0, .int .i64 0] 79)).drew.cell? ⟨nb (j + 1), 0, none⟩ = some (.int .i64 (rat rs j).id) := (hN3.row (show j + 1 < rs.length + 1 by omega)).1
    have hlj := hN3.lt (show j + 1 < rs.length + 1 by omega)
    have l4' := (hN3.links (show k + 1 < rs.length + 1 by omega)).2.1
    rw [show ahO rs (k + 1) = some (j + 1) by unfold ahO; rw [if_neg (by omega)]; exact s1] at l4'
    simp only [padr] at l4 l4'
    rcases la_last ht hjl with ⟨t1, t2⟩ | ⟨l, hl, t1, t2, t3⟩
    · have eA : inA rs k = 0 := by unfold inA; rw [s2, if_neg (by omega)]; unfold lastK; rw [t2]; rfl
      rw [eA, eB, s2]
      rw [t1] at l7
      simp only [padr] at l7
      clear hN hN1 hN3 s1 s2 eA eB t1 t2
      go_enter Tryd.func106, Tryd.ntmps106
      go_wp2_with fail
      go_region_with ((go_at_call 120; refine (behind_none _ _ _ hlj r0).mono ?_; rintro e w2 ⟨rfl, hb2⟩; have hS2 := hS1.below hb2 hS1.lt; obtain ⟨d0, d1⟩ := hS2.cells; have y0 := hS2.frozen 0; have y1 := hS2.frozen 1))
      all_goals
        have HP := Lib.hid ((hal.drew.trans (hb2.mono hal.drew.size)).trans (sgiven_below (n := w.heap.size) w2 w.heap.size (rat rs j).id 0 (Nat.le_refl _)))
        clear hS2 hS1 hb2
        go_wp2
        exact bodyPost_ret (by simp [results, Tryd.results106, go_sem, d0, d1, spotV]) rfl ⟨rfl, HP.out⟩
    · have eA : inA rs k = (rat rs l).id := by unfold inA; rw [s2, if_neg (by omega), t3]
      rw [eA, eB, s2]
      rw [t1] at l7
      simp only [padr] at l7
      have r1 : (w.alloc (.cells #[.int .i64 0, .int .i64 0] 79)).drew.cell? ⟨nb (l + 1), 0, none⟩ = some (.int .i64 (rat rs l).id) := (hN3.row (show l + 1 < rs.length + 1 by omega)).1
      have hll := hN3.lt (show l + 1 < rs.length + 1 by omega)
      clear hN hN1 hN3 s1 s2 eA eB t1 t2 t3
      go_enter Tryd.func106, Tryd.ntmps106
      go_wp2_with fail
      go_region_with ((go_at_call 120; refine (behind_some _ _ _ _ _ hlj r0 hll r1).mono ?_; rintro e w2 ⟨rfl, hb2⟩; have hS2 := hS1.below hb2 hS1.lt; obtain ⟨d0, d1⟩ := hS2.cells; have y0 := hS2.frozen 0; have y1 := hS2.frozen 1))
      all_goals
        have HP := Lib.hid ((hal.drew.trans (hb2.mono hal.drew.size)).trans (sgiven_below (n := w.heap.size) w2 w.heap.size (rat rs j).id (rat rs l).id (Nat.le_refl _)))
        clear hS2 hS1 hb2
        go_wp2
        exact bodyPost_ret (by simp [results, Tryd.results106, go_sem, d0, d1, spotV]) rfl ⟨rfl, HP.out⟩
end Go.Proofs.YtclhjgcapalniaaDoor
