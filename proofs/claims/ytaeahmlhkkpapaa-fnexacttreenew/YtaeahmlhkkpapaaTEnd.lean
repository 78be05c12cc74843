/-
  Contracts of the model's l2End. 
-/
import Derived.Test.YtaeahmlhkkpapaaTMem
namespace Go.Proofs.Ytaeahmlhkkpapaa
open Go.ChangeShapes Go.WideShapes Go.ChangeAt Go.RowKit Go.Joins
/-! ### l2End -/
theorem enR_mk {rs : List RowD} {i k : Nat} (h1 : i < k) (h2 : k ≤ rs.length) (h : ∀ j, i < j → j < k → rdep rs i < rdep rs j) (e : k < rs.length → ¬ rdep rs i < rdep rs k) : enR rs i = k :=
  en_uniq h1 h2 h (fun g => by have := e g; omega)
end Go.Proofs.Ytaeahmlhkkpapaa
