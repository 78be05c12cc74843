/-
  The walk of the law FnExactLogOk out of the contracts. Conditions: the arguments read as their types say; the table 'creators' holds what its initialiser lays.
-/
import Derived.Test.YtpgnbehmghfneaaDoorGN
import Derived.Test.YtpgnbehmghfneaaDoorGM
namespace Go.Proofs.YtpgnbehmghfneaaDoor
open Go.ChangeShapes Go.WideShapes Go.ChangeAt Go.RowKit Go.Joins

theorem fnExactLogOk_walk (w : World) (ht : Tab w) (a : Option Addr) (cap : Nat) (es : List EntD) (hm : es.length ≤ maxLen) (h : EntsAt w.heap.size w a es) (hf : ∀ i, i < es.length → EFit (eat es i)) :
    Calls Tryd.prog 4 #[.slice a es.length cap] w fun e w' => e = .returned (.bool true) ∧ Below w.heap.size w w' := by
  have hz := ht.pos
  go_enter Tryd.func4, Tryd.ntmps4
  go_wp2_with fail
  refine (szEntryS_any w.heap.size _ _ _ _ (Nat.le_refl _) h hf hm).mono ?_
  rintro e w1 ⟨z, rfl, hz', hb1⟩
  rcases hz' with hneg | ⟨hpos, _, hl⟩
  · go_wp2
    go_ret
    exact ⟨rfl, hb1⟩
  · have hfit : Hid (EntsFit es) := ⟨hl, hf⟩
    have hlm : es.length ≤ maxLen := hm
    clear hf
    have r1 := h.below hb1
    go_wp2_with fail
    refine (toEntryS_any w.heap.size _ _ _ _ hb1.size r1 hl).mono ?_
    rintro e w2 ⟨g1, rfl, hg1, o1, hb2⟩
    have b2 : Below w.heap.size w w2 := hb1.trans (hb2.mono hb1.size)
    go_wp2_with fail
    refine (specLogOk_any w2.heap.size _ _ _ _ (Nat.le_refl _) (o1.at_ o1.lt) hfit.out (Nat.le_refl _) hlm).mono ?_
    rintro e w3 ⟨rfl, hb3⟩
    have b3 : Below w.heap.size w w3 := b2.trans (hb3.mono b2.size)
    have r3 := h.below b3
    go_wp2_with fail
    refine (toEntryS_any w.heap.size _ _ _ _ b3.size r3 hl).mono ?_
    rintro e w4 ⟨g2, rfl, hg2, o2, hb4⟩
    have b4 : Below w.heap.size w w4 := b3.trans (hb4.mono b3.size)
    go_wp2_with fail
    refine (implLogOk_any w4.heap.size _ _ _ _ (Nat.le_refl _) (o2.at_ o2.lt) hfit.out (ht.below b4 hz)).mono ?_
    rintro e w5 ⟨rfl, hb5⟩
    have b5 : Below w.heap.size w w5 := b4.trans (hb5.mono b4.size)
    have o2' := o2.below hb5 o2.lt
    have r5 := h.below b5
    generalize logB es = tb at *
    go_wp2_with fail
    refine (toEntryS_any w.heap.size _ _ _ _ b5.size r5 hl).mono ?_
    rintro e w6 ⟨g3, rfl, hg3, o3, hb6⟩
    have b6 : Below w.heap.size w w6 := b5.trans (hb6.mono b5.size)
    have o2'' := o2'.below hb6 o2'.lt
    go_wp2_with fail
    refine (eqEntryS_same w6.heap.size _ _ _ _ _ _ (Nat.le_refl _) (o2''.at_ o2''.lt) (o3.at_ o3.lt) hl).mono ?_
    rintro e w7 ⟨rfl, hb7⟩
    go_wp2
    go_ret
    exact ⟨rfl, b6.trans (hb7.mono b6.size)⟩
end Go.Proofs.YtpgnbehmghfneaaDoor
