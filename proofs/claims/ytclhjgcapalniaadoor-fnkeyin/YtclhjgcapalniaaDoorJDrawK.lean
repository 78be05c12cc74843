/-
  spec.DrawKeyIn, DrawKeyOut, DrawKeyGone: some outline and some row, in bounds. Conditions: the code reads as bytes.
-/
import Derived.Test.YtclhjgcapalniaaDoorJDKids
import Derived.Test.YtclhjgcapalniaaDoorJKeyS2
namespace Go.Proofs.YtclhjgcapalniaaDoor
open Go.ChangeShapes Go.WideShapes Go.ChangeAt Go.RowKit Go.Joins

theorem drawKeyIn_any (a : Option Addr) (len cap : Nat) (w : World) (hb : Bytes w a len cap) :
    Calls Tryd.prog 8 #[.slice a len cap] w (DrewOne w) := by
  go_enter Tryd.func8, Tryd.ntmps8
  go_wp2_with fail
  refine (drawTreeAhead_any _ _ _ _ hb).mono ?_
  rintro e w1 ⟨a1, cap1, rs, z, rfl, z0, z1, l1, b1⟩
  have HF : Hid (DrewOne w (.returned (.tuple #[.slice a1 rs.length cap1, .int .i64 z])) w1) := ⟨a1, cap1, rs, z, rfl, z0, z1, l1, b1⟩
  clear l1 b1
  go_wp2
  go_ret2
  exact HF.out
end Go.Proofs.YtclhjgcapalniaaDoor
