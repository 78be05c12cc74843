/-
  Appends inside regions that leave their order open: a slice copied behind an empty one, and one element more. Conditions: as each theorem says.
-/
import Derived.Test.YtclhjgcapalniaaDoorJLoose
import Derived.Deep.DeepAppendRoom
import Derived.ArgAppend
namespace Go.Proofs.YtclhjgcapalniaaDoor
open Go.ChangeShapes Go.WideShapes Go.ChangeAt Go.RowKit Go.Joins
set_option linter.unusedVariables false

/-- Old blocks stay, but that cells of type e behind the first lo, in a block of two elements at least, may be others. -/
structure ExtG (e : TypeId) (size lo : Nat) (w w' : World) : Prop where
  more : w.heap.size ≤ w'.heap.size
  keep : ∀ (k : Nat) (o : Obj), w.heap[k]? = some o → w'.heap[k]? = some o ∨ ∃ cur cur' : Array Value, o = .cells cur e (0, 0) ∧ size * 2 ≤ cur.size ∧ w'.heap[k]? = some (.cells cur' e (0, 0)) ∧ cur'.size = cur.size ∧ cur'.toList.take lo = cur.toList.take lo
theorem ExtG.below {e : TypeId} {n lo : Nat} {w w' : World} (h : Below w.heap.size w w') : ExtG e n lo w w' := ⟨h.size, fun k o hk => .inl ((h.block k (Array.getElem?_eq_some_iff.1 hk).1).trans hk)⟩
/-- A block of another type, or of one element alone, stays. -/
theorem ExtG.same {e u : TypeId} {n lo k : Nat} {w w' : World} {cur : Array Value} {z : Nat × Nat} (h : ExtG e n lo w w') (hk : w.heap[k]? = some (.cells cur u z)) (hne : u ≠ e ∨ cur.size < n * 2) : w'.heap[k]? = some (.cells cur u z) := by
  rcases h.keep k _ hk with q | ⟨c, c', q, hs, _, _, _⟩
  · exact q
  · cases q
    rcases hne with hne | hne
    · exact absurd rfl hne
    · omega
section
variable {P : Program} (w : World)
/-- A slice behind an empty one of the call's own: a copy. -/
theorem run_append_copy (t ty : TypeId) (B : Nat) (e : TypeId) (i : TypeInfo) (z : Value) (size bytes : Nat) (ht : P.underlying t = some (.slice e)) (hi : P.info? e = some i) (hz : i.zero = some z)
    (hsize : i.size = size) (hby : i.bytes = bytes) (hzs : z.cells.size = size) (hsz : 0 < size)
    (b : Nat) (hb : B ≤ b) (hBs : B ≤ w.heap.size) (he : w.heap[b]? = some (.cells #[] e (0, 0))) (sa : Option Addr) (m c : Nat) (news : List Value) (hl : news.length = m * size) (hnews : m = 0 ∨ ∃ ad, sa = some ad ∧ ∀ j u, news[j]? = some u → w.cell? (ad.add j) = some u)
    (h63 : m ≤ maxLen) (hbytes : m * bytes ≤ 140737488355328) :
    ∃ v' w', (Builtin.append_ #[t, t] ty #[.slice (some ⟨b, 0, none⟩) 0 0, .slice sa m c]).run P w = .ok v' w' ∧ w'.ownsRow B e size v' m news ∧ Below w.heap.size w w' ∧ (m = 0 → v' = .slice (some ⟨b, 0, none⟩) 0 0) ∧ ∃ a' c', v' = .slice (some a') m c' ∧ m ≤ c' := by
  by_cases h0 : m = 0
  · subst h0
    obtain rfl : news = [] := by cases news with | nil => rfl | cons x xs => simp at hl
    refine ⟨.slice (some ⟨b, 0, none⟩) 0 0, w, ?_, ⟨by simp, .inr ⟨b, 0, #[], rfl, hb, he, Nat.le_refl _, Nat.zero_le _, by simp, by simp⟩⟩, Below.refl _ _, fun _ => rfl, _, _, rfl, Nat.le_refl _⟩
    have hfc : (Builtin.firstCells i.size 0 (.slice sa 0 c)).run P w = .ok #[] w := by
      cases sa with
      | none => exact run_firstCells_none w _ _ _ _
      | some a => exact run_firstCells_some w i.size 0 a 0 c [] (by simp) (fun j u hu => by cases hu)
    simp [Builtin.append_, run_underlying ht, sizeOf, typeInfo, hi, Builtin.lenOf, hfc]
    rfl
  · rcases hnews with q | ⟨ad, rfl, hnews⟩
    · exact absurd q h0
    · obtain ⟨v', w', h1, h2, h3⟩ := run_append_arg_grows (P := P) w t ty e i z size bytes ht hi hz hsize hby hzs hsz ⟨b, 0, none⟩ 0 0 [] (by simp) (fun j u hu => by cases hu) ad m c news hl hnews (by omega) (by omega) (by simpa using hbytes)
      rw [Nat.zero_add, List.nil_append] at h2
      have h4 : w'.ownsRow B e size v' m news := ⟨h2.1, h2.2.imp id fun ⟨g, cap, cur, q1, q2, q⟩ => ⟨g, cap, cur, q1, Nat.le_trans hBs q2, q⟩⟩
      refine ⟨v', w', h1, h4, ⟨h3.os, h3.tape, h3.output, h3.size, fun k hk => h3.block k hk (by simp)⟩, fun q => absurd q h0, ?_⟩
      rcases h2.2 with ⟨_, q⟩ | ⟨g, cap, cur, q1, q2, q3, q4, _⟩
      · exact absurd q h0
      · exact ⟨_, _, q1, q4⟩
/-- One element more behind a row of the call's own, whatever room it has. -/
theorem run_append_more (t ty : TypeId) (B : Nat) (e : TypeId) (i : TypeInfo) (z : Value) (size bytes : Nat) (ht : P.underlying t = some (.slice e)) (hi : P.info? e = some i) (hz : i.zero = some z)
    (hsize : i.size = size) (hby : i.bytes = bytes) (hzs : z.cells.size = size) (hsz : 0 < size)
    (v : Value) (n : Nat) (xs : List Value) (hown : w.ownsRow B e size v n xs) (h0 : n = 0 → ∀ a c, v = .slice (some a) 0 c → c = 0) (hBs : B ≤ w.heap.size)
    (ad : Addr) (c : Nat) (news : List Value) (hl : news.length = size) (hnews : ∀ j u, news[j]? = some u → w.cell? (ad.add j) = some u) (h1 : ∀ u ∈ news, u.oneCell' = true)
    (h63 : n + 1 ≤ maxLen) (hbytes : (n + 1) * bytes ≤ 140737488355328) :
    ∃ v' w', (Builtin.append_ #[t, t] ty #[v, .slice (some ad) 1 c]).run P w = .ok v' w' ∧ w'.ownsRow B e size v' (n + 1) (xs ++ news) ∧ ExtG e size (n * size) w w' ∧ (∀ N w0, N ≤ B → Below N w0 w → Below N w0 w') ∧ ∃ a' c', v' = .slice (some a') (n + 1) c' ∧ n + 1 ≤ c' := by
  have hl1 : news.length = 1 * size := by omega
  have fin : ∀ (v' : Value) (w' : World), w'.ownsRow B e size v' (n + 1) (xs ++ news) → ∃ a' c', v' = .slice (some a') (n + 1) c' ∧ n + 1 ≤ c' := fun v' w' h => by
    rcases h.2 with ⟨_, q⟩ | ⟨g, cap, cur, q1, _, _, q4, _⟩
    · omega
    · exact ⟨_, _, q1, q4⟩
  rcases hown.2 with ⟨rfl, hn⟩ | ⟨g, cap, cur, rfl, hg, hh, hnc, hcm, hcs, htk⟩
  · subst hn
    obtain ⟨v', w', r1, r2, r3, _⟩ := run_append_own (P := P) w B t ty e i z size bytes ht hi hz hsize hby hzs hsz _ 0 xs hown ad 1 c news hl1 hnews h1 h63 hbytes hBs
    have hb : Below w.heap.size w w' := ⟨r3.os, r3.tape, r3.output, r3.size, fun k hk => r3.block k hk (by simp [Value.ownBlock])⟩
    exact ⟨v', w', r1, r2, ExtG.below hb, fun N w0 hN h => h.trans (hb.mono (by omega)), fin v' w' r2⟩
  · by_cases hr : n + 1 ≤ cap
    · have hn1 : 1 ≤ n := by
        rcases Nat.eq_zero_or_pos n with q | q
        · subst q
          have := h0 rfl _ _ rfl
          omega
        · exact q
      obtain ⟨w', r1, r2, r3⟩ := run_append_own_spare (P := P) w B t ty e i size ht hi hsize g n cap xs hown ad 1 c news hl1 hnews h1 hr
      refine ⟨_, w', r1, r2, ⟨r3.size, fun k o hk => ?_⟩, fun N w0 hN h => h.trans ⟨r3.os, r3.tape, r3.output, r3.size, fun k hk => r3.block k (by omega) (fun q => by cases q; omega)⟩, fin _ w' r2⟩
      by_cases hkg : k = g
      · subst hkg
        right
        rw [hh] at hk; cases hk
        rcases r2.2 with ⟨q, _⟩ | ⟨g', cap', cur', q1, _, q3, _, _, q6, q7⟩
        · cases q
        · cases q1
          refine ⟨cur, cur', rfl, ?_, q3, by rw [q6, hcs], ?_⟩
          rotate_left
          · have e2 := congrArg (List.take (n * size)) q7
            rw [List.take_take, Nat.min_eq_left (Nat.mul_le_mul_right _ (by omega)), ← hown.1, List.take_left, hown.1] at e2
            rw [e2, htk]
          rw [hcs, Nat.mul_comm]
          exact Nat.mul_le_mul_right _ (by omega)
      · left
        exact (r3.block k (Array.getElem?_eq_some_iff.1 hk).1 (fun q => hkg (by cases q; rfl))).trans hk
    · have hcells : ∀ j u, xs[j]? = some u → w.cell? ((⟨g, 0, none⟩ : Addr).add j) = some u := fun j u hu => hown.cells (g := g) rfl j u hu
      obtain ⟨v', w', r1, r2, r3⟩ := run_append_arg_grows (P := P) w t ty e i z size bytes ht hi hz hsize hby hzs hsz ⟨g, 0, none⟩ n cap xs hown.1 hcells ad 1 c news hl1 hnews (by omega) h63 hbytes
      have r4 : w'.ownsRow B e size v' (n + 1) (xs ++ news) := ⟨r2.1, r2.2.imp id fun ⟨g', cap', cur', q1, q2, q⟩ => ⟨g', cap', cur', q1, Nat.le_trans hBs q2, q⟩⟩
      have hb : Below w.heap.size w w' := ⟨r3.os, r3.tape, r3.output, r3.size, fun k hk => r3.block k hk (by simp)⟩
      exact ⟨v', w', r1, r4, ExtG.below hb, fun N w0 hN h => h.trans (hb.mono (by omega)), fin v' w' r4⟩
end
/-- The operation append, by what it gives. -/
theorem looseR_append {P : Program} {o : Oper} {a : Act} {x w' : World} {K : Value → World → Prop} {v u v' : Value} (s y : Operand) (t : TypeId) (hop : o.op = Op.call { callee := Callee.builtin Builtin.append, args := #[s, y], argTypes := #[t, t] })
    (hs : a.eval s = v) (hy : a.eval y = u) (hr : (Builtin.append_ #[t, t] o.type #[v, u]).run P x = .ok v' w') (hK : K v' w') : looseR P K ((execOp a.eval o).run P x) := by
  simp [execOp, hop, resolve, invoke, builtin, hs, hy, hr, Result.andThen]
  exact hK
/-- Which worlds may follow at an operation: at an append, rows of two elements at least may be written, else nothing. -/
def XGt (s : Nat) (e : TypeId) (size lo i : Nat) (w w' : World) : Prop := (i ≠ s → Below w.heap.size w w') ∧ ExtG e size lo w w'
theorem XGt.of {s i size lo : Nat} {e : TypeId} {w w' : World} (h : Below w.heap.size w w') : XGt s e size lo i w w' := ⟨fun _ => h, .below h⟩
/-- A row of the call's own stays. -/
theorem own_extG {w w' : World} {B : Nat} {e : TypeId} {size n : Nat} {v : Value} {xs : List Value} (h : w.ownsRow B e size v n xs) (hx : ExtG e size (n * size) w w') : w'.ownsRow B e size v n xs := by
  refine ⟨h.1, h.2.imp id ?_⟩
  rintro ⟨g, cap, cur, q1, q2, q3, q4, q5, q6, q7⟩
  rcases hx.keep g _ q3 with q | ⟨c, c', q, _, r2, r3, r4⟩
  · exact ⟨g, cap, cur, q1, q2, q, q4, q5, q6, q7⟩
  · cases q
    exact ⟨g, cap, c', q1, q2, r2, q4, q5, by rw [r3, q6], by rw [r4, q7]⟩
end Go.Proofs.YtclhjgcapalniaaDoor
