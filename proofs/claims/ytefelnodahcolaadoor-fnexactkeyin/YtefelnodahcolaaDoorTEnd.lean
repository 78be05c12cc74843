/-
  Contracts of the model's l2End. 
-/
import Derived.Test.YtefelnodahcolaaDoorTMem
namespace Go.Proofs.YtefelnodahcolaaDoor
open Go.ChangeShapes Go.WideShapes Go.ChangeAt Go.RowKit Go.Joins
/-! ### l2End -/
theorem enR_mk {rs : List RowD} {i k : Nat} (h1 : i < k) (h2 : k ≤ rs.length) (h : ∀ j, i < j → j < k → rdep rs i < rdep rs j) (e : k < rs.length → ¬ rdep rs i < rdep rs k) : enR rs i = k :=
  en_uniq h1 h2 h (fun g => by have := e g; omega)
theorem l2End_any (B : Nat) (a : Option Addr) (cap i : Nat) (rs : List RowD) (w : World) (hB : B ≤ w.heap.size) (h : RowsAt B w a rs) (hf : Fit rs) (hi : i < rs.length) :
    Calls Tryd.prog 50 #[.slice a rs.length cap, .int .i64 i] w (RetBelow (.int .i64 (enR rs i)) w) := by
  have hl := hf.1
  go_enter Tryd.func50, Tryd.ntmps50
  go_wp2
  go_loopw [5] (fun e w' => ∃ k : Nat, i < k ∧ k ≤ rs.length ∧ e = .int .i64 k ∧ Hid (∀ j, i < j → j < k → rdep rs i < rdep rs j) ∧ Below w.heap.size w w') (fun e _ => rs.length - (intOf e).toNat)
  case atStart => exact ⟨i + 1, by omega, by omega, by go_num, fun j h1 h2 => by omega, Below.refl _ _⟩
  case round =>
    obtain ⟨k, hk1, hk2, rfl, ha, hb⟩ := hrel
    have hr := h.below (hb.mono hB)
    by_cases hlt : k < rs.length
    · obtain ⟨b, off, rfl, _, c0, c1, c2⟩ := hr.at_ hlt
      obtain ⟨b', off', e1, _, d0, d1, d2⟩ := hr.at_ hi
      cases e1
      have i1 : (k : Int) < (rs.length : Int) := by omega
      have i2 : (i : Int) < (rs.length : Int) := by omega
      by_cases hd : (rat rs i).dep < (rat rs k).dep
      · have HN : Hid (∀ j, i < j → j < k + 1 → rdep rs i < rdep rs j) := fun j h1 h2 => by
          by_cases e : j = k
          · subst e; exact hd
          · exact ha.out j h1 (by omega)
        go_wp2
        go_quiet (fail)
        go_wp2
        go_roundw
        case rel => exact ⟨k + 1, by omega, by omega, by go_num, HN, below_drewN _ hb⟩
        case measure => simp [intOf]; omega
      · have HF := Lib.hid (enR_mk hk1 hk2 ha.out (fun _ => hd))
        go_wp2
        go_quiet (fail)
        go_wp2
        go_ret
        exact ⟨by rw [HF.out]; rfl, below_drewN _ hb⟩
    · have HF := Lib.hid (enR_mk hk1 hk2 ha.out (fun g => absurd g hlt))
      have hd : decide ((k : Int) < (rs.length : Int)) = false := by simp; omega
      go_wp2
      go_quiet (fail)
      go_wp2
      go_ret
      exact ⟨by rw [HF.out]; rfl, below_drewN _ hb⟩
end Go.Proofs.YtefelnodahcolaaDoor
