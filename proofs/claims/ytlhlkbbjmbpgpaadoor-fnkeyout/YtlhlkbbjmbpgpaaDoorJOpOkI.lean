/-
  Contract of the program's OpOk: it answers as the model's. Conditions: the table 'creators' holds what its initialiser lays; the text is not too long.
-/
import Derived.Test.YtlhlkbbjmbpgpaaDoorGC
namespace Go.Proofs.YtlhlkbbjmbpgpaaDoor
open Go.ChangeShapes Go.WideShapes Go.ChangeAt Go.RowKit Go.Joins

theorem implOpOk_any (o : OpD) (w : World) (ht : Tab w) (hs : o.txt.size ≤ maxLen) :
    Calls Tryd.prog 37 #[.agg #[.int .i64 o.kind, .int .i64 o.id, .int .i64 o.up, .int .i64 o.at_, .string o.txt]] w (RetBelow (.bool (opokB o)) w) := by
  have hb : Below w.heap.size w (w.alloc (.cells #[.int .i64 o.kind, .int .i64 o.id, .int .i64 o.up, .int .i64 o.at_, .string o.txt] 25)) := (Below.refl _ _).alloc (Nat.le_refl _) _
  have HC := Lib.hid (changeOf_any o _ (ht.below hb ht.pos) hs)
  generalize chR o = v at *
  generalize opokB o = ok at *
  go_enter Tryd.func37, Tryd.ntmps37
  go_wp2_with fail
  refine HC.out.mono ?_
  rintro e w1 ⟨rfl, hb1⟩
  go_wp2
  go_ret
  exact ⟨rfl, hb.trans (hb1.mono hb.size)⟩
end Go.Proofs.YtlhlkbbjmbpgpaaDoor
