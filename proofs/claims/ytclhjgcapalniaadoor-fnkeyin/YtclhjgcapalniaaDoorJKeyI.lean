/-
  The program's small functions of chapter 11 over nodes: isRoot, root, behind, trash, and what the last child of a row is. Conditions: as each theorem says.
-/
import Derived.Test.YtclhjgcapalniaaDoorJKeyS
import Derived.Test.YtclhjgcapalniaaDoorGB
import Derived.Test.YtclhjgcapalniaaDoorGC
namespace Go.Proofs.YtclhjgcapalniaaDoor
open Go.ChangeShapes Go.WideShapes Go.ChangeAt Go.RowKit Go.Joins

theorem kids_last (rs : List RowD) (x : Nat) : ∀ k s, (kidsOf rs x s k = [] ∧ ∀ j, s ≤ j → j < s + k → rdep rs j ≠ rdep rs x + 1) ∨
    ∃ l, s ≤ l ∧ l < s + k ∧ rdep rs l = rdep rs x + 1 ∧ (∀ j, l < j → j < s + k → rdep rs j ≠ rdep rs x + 1) ∧ kidsOf rs x s k ≠ [] ∧ (kidsOf rs x s k).getD ((kidsOf rs x s k).length - 1) 0 = (rat rs l).id
  | 0, s => .inl ⟨rfl, fun j a b => by omega⟩
  | k + 1, s => by
    rw [kidsOf_snoc]
    by_cases h : rdep rs (s + k) = rdep rs x + 1
    · rw [if_pos h]
      refine .inr ⟨s + k, by omega, by omega, h, fun j a b => by omega, by simp, ?_⟩
      simp
    · rw [if_neg h, List.append_nil]
      rcases kids_last rs x k s with ⟨h1, h2⟩ | ⟨l, h1, h2, h3, h4, h5⟩
      · refine .inl ⟨h1, fun j a b => ?_⟩
        by_cases e : j = s + k
        · rw [e]; exact h
        · exact h2 j a (by omega)
      · refine .inr ⟨l, h1, by omega, h3, fun j a b => ?_, h5⟩
        by_cases e : j = s + k
        · rw [e]; exact h
        · exact h4 j a (by omega)
theorem la_last {rs : List RowD} (ht : treeB rs = true) {j : Nat} (hj : j < rs.length) :
    (la (dp rs) (rs.length + 1) (j + 1) = none ∧ kidsL rs (rat rs j).id = []) ∨ ∃ l, l < rs.length ∧ la (dp rs) (rs.length + 1) (j + 1) = some (l + 1) ∧ kidsL rs (rat rs j).id ≠ [] ∧ lastK rs (rat rs j).id = (rat rs l).id := by
  have hT := treeP_of ht
  have hD := hT.deps
  have ha := hT.at_self hj
  have hk : kidsL rs (rat rs j).id = kidsOf rs j (j + 1) (enR rs j - (j + 1)) := by rw [kidsL_yes (by rw [ha]; exact hj), ha]
  have he := en_shift hj
  obtain ⟨e1, e2, _, _⟩ := en_spec (D := rdep rs) hj
  have e' : enR rs j = en (rdep rs) rs.length j := rfl
  unfold lastK
  rw [hk]
  rcases kids_last rs j (enR rs j - (j + 1)) (j + 1) with ⟨h1, h2⟩ | ⟨l, h1, h2, h3, h4, h5, h6⟩
  · refine .inl ⟨lstBelow_mk_none _ _ (fun i hi => ?_), h1⟩
    rw [Bool.eq_false_iff]; intro g
    have q := (kid_iff hD (show j + 1 < rs.length + 1 by omega) hi).1 g
    rw [he] at q
    obtain ⟨i', rfl⟩ : ∃ i', i = i' + 1 := ⟨i - 1, by omega⟩
    exact h2 i' (by omega) (by omega) q.2.2
  · refine .inr ⟨l, by omega, lstBelow_mk _ _ _ (by omega) ?_ (fun i a b => ?_), h5, h6⟩
    · exact (kid_iff hD (by omega) (by omega)).2 ⟨by omega, by rw [he]; omega, h3⟩
    · rw [Bool.eq_false_iff]; intro g
      have q := (kid_iff hD (show j + 1 < rs.length + 1 by omega) b).1 g
      rw [he] at q
      obtain ⟨i', rfl⟩ : ∃ i', i = i' + 1 := ⟨i - 1, by omega⟩
      exact h4 i' (by omega) (by omega) q.2.2
theorem isRoot_any (b : Nat) (d : Int) (w : World) (h : w.cell? ⟨b, 1, none⟩ = some (.int .i64 d)) :
    Calls Tryd.prog 85 #[.pointer (some ⟨b, 0, none⟩)] w fun e w' => e = .returned (.bool (d == 0)) ∧ w = w' := by
  go_enter Tryd.func85, Tryd.ntmps85
  go_wp2
  go_ret
  exact ⟨rfl, rfl⟩
theorem behind_none (b : Nat) (i : Int) (w : World) (hb : b < w.heap.size) (h : w.cell? ⟨b, 0, none⟩ = some (.int .i64 i)) :
    Calls Tryd.prog 120 #[.pointer (some ⟨b, 0, none⟩), .pointer none] w (RetBelow (.agg #[.int .i64 i, .int .i64 0]) w) := by
  have hal : Below w.heap.size w (w.alloc (.cells #[.int .i64 0, .int .i64 0] 79)) := (Below.refl _ _).alloc (Nat.le_refl _) _
  have h' : (w.alloc (.cells #[.int .i64 0, .int .i64 0] 79)).cell? ⟨b, 0, none⟩ = some (.int .i64 i) := by rw [hal.cell (p := ⟨b, 0, none⟩) hb]; exact h
  go_enter Tryd.func120, Tryd.ntmps120
  go_wp2
  go_returns
  exact ⟨rfl, by go_grown⟩
theorem behind_some (b c : Nat) (i j : Int) (w : World) (hb : b < w.heap.size) (h : w.cell? ⟨b, 0, none⟩ = some (.int .i64 i)) (hc : c < w.heap.size) (h2 : w.cell? ⟨c, 0, none⟩ = some (.int .i64 j)) :
    Calls Tryd.prog 120 #[.pointer (some ⟨b, 0, none⟩), .pointer (some ⟨c, 0, none⟩)] w (RetBelow (.agg #[.int .i64 i, .int .i64 j]) w) := by
  have hal : Below w.heap.size w (w.alloc (.cells #[.int .i64 0, .int .i64 0] 79)) := (Below.refl _ _).alloc (Nat.le_refl _) _
  have h' : (w.alloc (.cells #[.int .i64 0, .int .i64 0] 79)).cell? ⟨b, 0, none⟩ = some (.int .i64 i) := by rw [hal.cell (p := ⟨b, 0, none⟩) hb]; exact h
  have h2' : (w.alloc (.cells #[.int .i64 0, .int .i64 0] 79)).cell? ⟨c, 0, none⟩ = some (.int .i64 j) := by rw [hal.cell (p := ⟨c, 0, none⟩) hc]; exact h2
  go_enter Tryd.func120, Tryd.ntmps120
  go_wp2
  go_region
  all_goals
    go_wp2
    go_returns
    exact ⟨rfl, by go_grown⟩
theorem trash_any (w : World) : Calls Tryd.prog 122 #[] w (RetBelow (.agg #[.int .i64 2, .int .i64 0]) w) := by
  go_enter Tryd.func122, Tryd.ntmps122
  go_wp2
  go_returns
  exact ⟨rfl, by first | exact Below.refl _ _ | go_grown⟩
theorem commands_any (w : World) : Calls Tryd.prog 86 #[] w (RetBelow (.agg #[.func (.func 106) #[] #[], .func (.func 107) #[] #[], .func (.func 108) #[] #[]]) w) := by
  have hs1 := fun (a : Addr) (w : World) => run_store Tryd.prog w a (.func (.func 106) #[] #[]) .plain rfl
  have hs2 := fun (a : Addr) (w : World) => run_store Tryd.prog w a (.func (.func 107) #[] #[]) .plain rfl
  have hs3 := fun (a : Addr) (w : World) => run_store Tryd.prog w a (.func (.func 108) #[] #[]) .plain rfl
  go_enter Tryd.func86, Tryd.ntmps86
  go_wp2
  go_returns
  exact ⟨rfl, by first | exact Below.refl _ _ | go_grown⟩
end Go.Proofs.YtclhjgcapalniaaDoor
