/-
  The walk of the law FnExactTreeNew out of the contracts: the three roots are made anew by each call. Conditions: none.
-/
import Derived.Test.YtaeahmlhkkpapaaMarkEx
namespace Go.Proofs.Ytaeahmlhkkpapaa
open Go.ChangeShapes Go.WideShapes Go.ChangeAt Go.RowKit Go.Joins

def r3 : List RowD := [⟨1, 0, ⟨#[]⟩⟩, ⟨2, 0, ⟨#[]⟩⟩, ⟨3, 0, ⟨#[]⟩⟩]
def c3 : Array Value := #[.int .i64 1, .int .i64 0, .string ⟨#[]⟩, .int .i64 2, .int .i64 0, .string ⟨#[]⟩, .int .i64 3, .int .i64 0, .string ⟨#[]⟩]
theorem own_r3 (w : World) : OwnRows (w.alloc (.cells c3 28)) w.heap.size r3 := by
  refine ⟨fun i => c3.getD i undef, ⟨c3, heap_alloc_new _ _, rfl, fun i hi => ?_⟩, fun i hi => ?_⟩
  · have h9 : c3.size = 9 := rfl
    have hi' : i < 9 := hi
    rw [Array.getElem?_eq_getElem (by omega)]; simp [Array.getD, h9, hi']
  · have hi' : i < 3 := hi
    rcases i with _ | _ | _ | i
    · exact ⟨rfl, rfl, rfl⟩
    · exact ⟨rfl, rfl, rfl⟩
    · exact ⟨rfl, rfl, rfl⟩
    · omega
theorem specNew_ex (w : World) : Calls Try.prog 4 #[] w (RetRows r3 w) := by
  go_enter Try.func4, Try.ntmps4
  go_wp2
  go_ret
  exact ⟨w.heap.size, rfl, Nat.le_refl _, own_r3 w, (Below.refl _ _).alloc (Nat.le_refl _) _⟩
theorem implNew_ex (w : World) : Calls Try.prog 5 #[] w (RetRows r3 w) := by
  go_enter Try.func5, Try.ntmps5
  go_wp2
  go_ret
  exact ⟨w.heap.size, rfl, Nat.le_refl _, own_r3 w, (Below.refl _ _).alloc (Nat.le_refl _) _⟩
theorem OwnRows.but {w w' : World} {g b : Nat} {rs : List RowD} (h : OwnRows w g rs) (hb : But b w.heap.size w w') (hg : g ≠ b) : OwnRows w' g rs := by
  obtain ⟨f, h1, h2⟩ := h
  exact ⟨f, h1.of_block (hb.block g h1.lt hg), h2⟩
set_option maxRecDepth 100000 in
set_option maxHeartbeats 1000000 in
theorem fnExactTreeNew_walk (w : World) :
    Calls Try.prog 3 #[] w fun e w' => e = .returned (.bool true) ∧ Below w.heap.size w w' := by
  have hl : r3.length ≤ 1048576 := by decide
  have hl3 : Hid (r3.length = 3) := rfl
  go_enter Try.func3, Try.ntmps3
  go_wp2_with fail
  refine (specNew_ex _).mono ?_
  rintro e w1 ⟨g0, rfl, hg0, o1, b1⟩
  go_wp2_with fail
  refine (implNew_ex _).mono ?_
  rintro e w2 ⟨g1, rfl, hg1, p2, hb2⟩
  have lt0 := o1.lt
  have o2 := o1.below hb2 lt0
  have b2 : Below w.heap.size w w2 := b1.trans (hb2.mono b1.size)
  have s12 := hb2.size
  clear hb2 o1
  go_wp2_with fail
  refine (eqRowS_same w2.heap.size _ _ _ _ _ _ (Nat.le_refl _) (p2.at_ p2.lt) (o2.at_ o2.lt) hl).mono ?_
  rintro e w3 ⟨rfl, hb3⟩
  have b3 : Below w.heap.size w w3 := b2.trans (hb3.mono b2.size)
  have o3 := o2.below hb3 o2.lt
  have p3 := p2.below hb3 p2.lt
  have s23 := hb3.size
  clear o2 p2 hb3
  go_wp2_with fail
  refine (markRowS_ex g1 _ r3 _ p3 hl).mono ?_
  rintro e w4 ⟨rfl, p4, hb4⟩
  have o4 := o3.but hb4 (by omega)
  have b4 : Below w.heap.size w w4 := b3.trans (hb4.below (Nat.le_trans b1.size hg1) b3.size)
  have s34 := hb4.size
  clear o3 p3 hb4
  have hq : ¬ ((r3.length : Int) * 3 + 1 < 0) := by omega
  go_wp2_with fail
  refine (heldRowS_ex w4.heap.size _ _ r3.length _ (Nat.le_refl _) (p4.at_ p4.lt) hl).mono ?_
  rintro e w5 ⟨rfl, hb5⟩
  have b5 : Below w.heap.size w w5 := b4.trans (hb5.mono b4.size)
  have o5 := o4.below hb5 o4.lt
  have p5 := p4.below hb5 p4.lt
  clear o4 p4 hb5
  go_wp2_with fail
  refine (implNew_ex _).mono ?_
  rintro e w6 ⟨g2, rfl, hg2, q6, hb6⟩
  have b6 : Below w.heap.size w w6 := b5.trans (hb6.mono b5.size)
  have o6 := o5.below hb6 o5.lt
  have p6 := p5.below hb6 p5.lt
  clear o5 p5 hb6
  go_wp2_with fail
  refine (eqRowS_same w6.heap.size _ _ _ _ _ _ (Nat.le_refl _) (q6.at_ q6.lt) (o6.at_ o6.lt) hl).mono ?_
  rintro e w7 ⟨rfl, hb7⟩
  have b7 : Below w.heap.size w w7 := b6.trans (hb7.mono b6.size)
  have p7 := p6.below hb7 p6.lt
  clear o6 p6 q6 hb7
  go_wp2_with fail
  refine (heldRowS_ex w7.heap.size _ _ r3.length _ (Nat.le_refl _) (p7.at_ p7.lt) hl).mono ?_
  rintro e w8 ⟨rfl, hb8⟩
  have b8 : Below w.heap.size w w8 := b7.trans (hb8.mono b7.size)
  clear p7 hb8
  go_wp2
  go_ret
  exact ⟨rfl, b8⟩
end Go.Proofs.Ytaeahmlhkkpapaa
