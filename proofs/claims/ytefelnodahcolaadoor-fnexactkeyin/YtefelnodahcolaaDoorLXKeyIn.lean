/-
  The walk of the law FnExactKeyIn out of the contracts. Conditions: the argument reads as rows; the table 'creators' holds what its initialiser lays.
-/
import Derived.Test.YtefelnodahcolaaDoorKeyI5
import Derived.Test.YtefelnodahcolaaDoorLTreeOk
import Derived.Test.YtefelnodahcolaaDoorEqOp
namespace Go.Proofs.YtefelnodahcolaaDoor
open Go.ChangeShapes Go.WideShapes Go.ChangeAt Go.RowKit Go.Joins

set_option maxRecDepth 100000 in
set_option maxHeartbeats 1000000 in
theorem fnExactKeyIn_walk (w : World) (ht : Tab w) (a : Option Addr) (cap : Nat) (rs : List RowD) (hm : rs.length ≤ maxLen) (h : RowsAt w.heap.size w a rs) (hf : FitW rs) (id : Int) (_hi : I64 id) :
    Calls Tryd.prog 3 #[.slice a rs.length cap, .int .i64 id] w fun e w' => e = .returned (.bool true) ∧ Below w.heap.size w w' := by
  have hz := ht.pos
  go_enter Tryd.func3, Tryd.ntmps3
  go_wp2_with fail
  refine (szRowS_any w.heap.size _ _ _ _ (Nat.le_refl _) h hf hm).mono ?_
  rintro e w1 ⟨z, rfl, hz', hb1⟩
  rcases hz' with hneg | ⟨hpos, hl⟩
  · go_wp2
    go_ret
    exact ⟨rfl, hb1⟩
  · have hfit := Lib.hid (fit_of hf hl)
    have r1 := h.below hb1
    go_wp2_with fail
    refine (toRowS_any w.heap.size _ _ _ _ hb1.size r1 hl).mono ?_
    rintro e w2 ⟨g1, rfl, hg1, o1, hb2⟩
    have b2 : Below w.heap.size w w2 := hb1.trans (hb2.mono hb1.size)
    go_wp2_with fail
    refine (specKeyIn_any w2.heap.size _ _ _ _ _ (Nat.le_refl _) (o1.at_ o1.lt) hfit.out).mono ?_
    rintro e w3 ⟨rfl, hb3⟩
    have HI := Lib.hid (fun (g : Nat) (x : World) (h1 : RowsAt x.heap.size x (some ⟨g, 0, none⟩) rs) (h2 : Tab x) => implKeyIn_any x.heap.size _ rs.length rs id x (Nat.le_refl _) h1 hfit.out h2)
    generalize kinO rs id = o at *
    generalize kinB rs id = b at *
    simp only [keyV] at HI ⊢
    have hal3 : Below w3.heap.size w3 (w3.alloc (.cells #[.int .i64 o.kind, .int .i64 o.id, .int .i64 o.up, .int .i64 o.at_, .string o.txt] 25)) := (Below.refl _ _).alloc (Nat.le_refl _) _
    have hK3 := KBox.new w3 o
    have b30 : Below w.heap.size w w3 := b2.trans (hb3.mono b2.size)
    have b3 := b30.trans (hal3.mono b30.size)
    have r3 := h.below b3
    clear b30 hal3
    go_wp2_with fail
    refine (toRowS_any w.heap.size _ _ _ _ b3.size r3 hl).mono ?_
    rintro e w4 ⟨g2, rfl, hg2, o2, hb4⟩
    have b4 : Below w.heap.size w w4 := b3.trans (hb4.mono b3.size)
    have hK4 := hK3.below hb4 hK3.lt
    go_wp2_with fail
    refine (HI.out _ _ (o2.at_ o2.lt) (ht.below b4 hz)).mono ?_
    rintro e w5 ⟨rfl, hb5⟩
    have hal5 : Below w5.heap.size w5 (w5.alloc (.cells #[.int .i64 o.kind, .int .i64 o.id, .int .i64 o.up, .int .i64 o.at_, .string o.txt] 25)) := (Below.refl _ _).alloc (Nat.le_refl _) _
    have b50 : Below w.heap.size w w5 := b4.trans (hb5.mono b4.size)
    have b5 := b50.trans (hal5.mono b50.size)
    have hK5 := (hK4.below hb5 hK4.lt).below hal5 (Nat.lt_of_lt_of_le hK4.lt hb5.size)
    have hJ5 := KBox.new w5 o
    have o2' := (o2.below hb5 o2.lt).below hal5 (Nat.lt_of_lt_of_le o2.lt hb5.size)
    have r5 := h.below b5
    obtain ⟨k0, k1, k2, k3, k4⟩ := hK5.cells
    obtain ⟨j0, j1, j2, j3, j4⟩ := hJ5.cells
    clear hK3 hK4 hK5 hJ5 hal5 b50 hb3 hb4 hb5 b4 b3 r3 r1 o1 o2 hb2 b2 HI
    go_wp2_with fail
    refine (eqOp_same o _).mono ?_
    rintro e w6 ⟨rfl, hb6⟩
    have b6 := b5.trans (hb6.mono b5.size)
    have o2'' := o2'.below hb6 o2'.lt
    have r6 := h.below b6
    clear k0 k1 k2 k3 k4 j0 j1 j2 j3 j4
    go_wp2_with fail
    refine (toRowS_any w.heap.size _ _ _ _ b6.size r6 hl).mono ?_
    rintro e w7 ⟨g3, rfl, hg3, o3, hb7⟩
    have b7 : Below w.heap.size w w7 := b6.trans (hb7.mono b6.size)
    have o2q := o2''.below hb7 o2''.lt
    go_wp2_with fail
    refine (eqRowS_same w7.heap.size _ _ _ _ _ _ (Nat.le_refl _) (o2q.at_ o2q.lt) (o3.at_ o3.lt) hl).mono ?_
    rintro e w8 ⟨rfl, hb8⟩
    go_wp2
    go_ret
    exact ⟨rfl, b7.trans (hb8.mono b7.size)⟩
end Go.Proofs.YtefelnodahcolaaDoor
