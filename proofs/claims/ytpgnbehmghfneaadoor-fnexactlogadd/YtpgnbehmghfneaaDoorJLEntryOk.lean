/-
  The walk of the law FnExactEntryOk out of the contracts. Conditions: the arguments read as their types say; the table 'creators' holds what its initialiser lays.
-/
import Derived.Test.YtpgnbehmghfneaaDoorGN
import Derived.Test.YtpgnbehmghfneaaDoorGM
namespace Go.Proofs.YtpgnbehmghfneaaDoor
open Go.ChangeShapes Go.WideShapes Go.ChangeAt Go.RowKit Go.Joins

theorem lbox_new (w : World) (e : EntD) : let W := w.alloc (.cells #[.int .i64 e.who, .int .i64 e.seq, .int .i64 e.op.kind, .int .i64 e.op.id, .int .i64 e.op.up, .int .i64 e.op.at_, .string e.op.txt] 25);
    ∀ x : World, Below W.heap.size W x → x.cell? ⟨w.heap.size, 0, none⟩ = some (.int .i64 e.who) ∧ x.cell? ⟨w.heap.size, 1, none⟩ = some (.int .i64 e.seq) ∧ x.cell? ⟨w.heap.size, 2, none⟩ = some (.int .i64 e.op.kind) ∧ x.cell? ⟨w.heap.size, 3, none⟩ = some (.int .i64 e.op.id) ∧ x.cell? ⟨w.heap.size, 4, none⟩ = some (.int .i64 e.op.up) ∧ x.cell? ⟨w.heap.size, 5, none⟩ = some (.int .i64 e.op.at_) ∧ x.cell? ⟨w.heap.size, 6, none⟩ = some (.string e.op.txt) := by
  intro W x hx
  have hc : ∀ j, x.cell? ⟨w.heap.size, j, none⟩ = W.cell? ⟨w.heap.size, j, none⟩ := fun j => hx.cell (p := ⟨w.heap.size, j, none⟩) (by simp [W])
  refine ⟨?_, ?_, ?_, ?_, ?_, ?_, ?_⟩ <;> rw [hc] <;> simp [W, go_sem]
theorem fnExactEntryOk_walk (w : World) (ht : Tab w) (e : EntD) (hf : EFit e) :
    Calls Tryd.prog 3 #[.agg #[.int .i64 e.who, .int .i64 e.seq, .int .i64 e.op.kind, .int .i64 e.op.id, .int .i64 e.op.up, .int .i64 e.op.at_, .string e.op.txt]] w fun r w' => r = .returned (.bool true) ∧ Below w.heap.size w w' := by
  have hz := ht.pos
  have ht1 := hf.op.txt
  have hb0 : Below w.heap.size w (w.alloc (.cells #[.int .i64 e.who, .int .i64 e.seq, .int .i64 e.op.kind, .int .i64 e.op.id, .int .i64 e.op.up, .int .i64 e.op.at_, .string e.op.txt] 25)) := (Below.refl _ _).alloc (Nat.le_refl _) _
  have HN := Lib.hid (lbox_new w e)
  go_enter Tryd.func3, Tryd.ntmps3
  go_wp2_with fail
  refine (szEntry_any e _ _ ht1 (by omega) (by omega)).mono ?_
  rintro _ w1 ⟨z, hz1, rfl, hb1⟩
  by_cases hneg : z < 0
  · go_wp2
    go_ret
    exact ⟨rfl, hb0.trans (hb1.mono hb0.size)⟩
  · obtain ⟨x0, x1, x2, x3, x4, x5, x6⟩ := HN.out w1 hb1
    have b1 := hb0.trans (hb1.mono hb0.size)
    go_wp2_with fail
    refine (toEntry_any e _).mono ?_
    rintro _ w2 ⟨rfl, hb2⟩
    have b2 := b1.trans (hb2.mono b1.size)
    have n2 := hb1.trans (hb2.mono hb1.size)
    clear x0 x1 x2 x3 x4 x5 x6
    go_wp2_with fail
    refine (specEntryOk_any e _ hf).mono ?_
    rintro _ w3 ⟨rfl, hb3⟩
    have b3 := b2.trans (hb3.mono b2.size)
    obtain ⟨x0, x1, x2, x3, x4, x5, x6⟩ := HN.out w3 (n2.trans (hb3.mono n2.size))
    go_wp2_with fail
    refine (toEntry_any e _).mono ?_
    rintro _ w4 ⟨rfl, hb4⟩
    have b4 := b3.trans (hb4.mono b3.size)
    clear x0 x1 x2 x3 x4 x5 x6
    go_wp2_with fail
    refine (implEntryOk_any e _ (ht.below b4 hz) hf).mono ?_
    rintro _ w5 ⟨rfl, hb5⟩
    have b5 := b4.trans (hb5.mono b4.size)
    generalize entB e = eb at *
    go_wp2
    go_ret
    exact ⟨rfl, b5⟩
end Go.Proofs.YtpgnbehmghfneaaDoor
