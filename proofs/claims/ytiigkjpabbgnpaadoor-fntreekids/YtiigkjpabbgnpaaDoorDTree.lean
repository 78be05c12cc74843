/-
  The model's drawing of outlines: l71Id, l71Tree. What is drawn is said loosely: how long, and in what bounds. Conditions: as each theorem says.
-/
import Derived.Test.YtiigkjpabbgnpaaDoorTDo1
import Derived.Test.YtiigkjpabbgnpaaDoorDText
namespace Go.Proofs.YtiigkjpabbgnpaaDoor
open Go.ChangeShapes Go.WideShapes Go.ChangeAt Go.RowKit Go.Joins

/-- A number between lo and hi was drawn. -/
def DrewInt (N b p : Nat) (lo hi : Int) (w : World) (e : Ending) (w' : World) : Prop := ∃ z : Int, lo ≤ z ∧ z ≤ hi ∧ e = .returned (.int .i64 z) ∧ But b w.heap.size w w' ∧ Rd N w' b p
theorem l71Id_any (N b p : Nat) (w : World) (hr : Rd N w b p) (hp : p < 1000000) :
    Calls Tryd.prog 48 #[.pointer (some ⟨b, 0, none⟩)] w (DrewInt N b (p + 2) 11 34 w) := by
  go_enter Tryd.func48, Tryd.ntmps48
  go_wp2_with fail
  refine (pick_any _ _ _ _ _ hr (by omega) (by omega) (by omega)).mono ?_
  rintro e w1 ⟨k, k0, k1, rfl, b1, s1, r1⟩
  go_wp2_with fail
  refine (pick_any _ _ _ _ _ r1 (by omega) (by omega) (by omega)).mono ?_
  rintro e w2 ⟨j, j0, j1, rfl, b2, s2, r2⟩
  go_wp2
  go_ret
  exact ⟨_, by omega, by omega, rfl, b1.trans (b2.mono s1), r2⟩

/-! ### what is drawn -/
def Bd (k : Nat) (r : RowD) : Prop := 0 ≤ r.id ∧ r.id ≤ 99 ∧ 0 ≤ r.dep ∧ r.dep ≤ (k : Int) ∧ r.txt.size ≤ 7
structure Drawn (k : Nat) (rs : List RowD) : Prop where
  lo : 3 ≤ rs.length
  hi : rs.length ≤ 3 + k
  three : ∃ r ∈ rs, r.id = 3
  bd : ∀ r ∈ rs, Bd k r
theorem rat_mem {rs : List RowD} {i : Nat} (h : i < rs.length) : rat rs i ∈ rs := by
  simp [rat, h]
theorem Bd.mono {k k' : Nat} {r : RowD} (h : Bd k r) (hk : k ≤ k') : Bd k' r := ⟨h.1, h.2.1, h.2.2.1, by have := h.2.2.2.1; omega, h.2.2.2.2⟩
theorem Drawn.mono {k k' : Nat} {rs : List RowD} (h : Drawn k rs) (hk : k ≤ k') : Drawn k' rs := ⟨h.lo, by have := h.hi; omega, h.three, fun r hr => (h.bd r hr).mono hk⟩
theorem three_there {rs : List RowD} (h : ∃ r ∈ rs, r.id = 3) : thereB rs 3 = true := by
  obtain ⟨r, h1, h2⟩ := h
  obtain ⟨i, hi, rfl⟩ := List.getElem_of_mem h1
  simp only [thereB, decide_eq_true_eq]
  have : rat rs i = rs[i] := by simp [rat, hi]
  rw [← h2, ← this]; exact there_at hi
theorem bd_fit {k : Nat} {rs : List RowD} (hk : k ≤ 1000) (hl : rs.length ≤ 1048576) (h : ∀ r ∈ rs, Bd k r) : Fit rs := by
  refine ⟨hl, fun i hi => ?_⟩
  obtain ⟨h1, h2, h3, h4, h5⟩ := h _ (rat_mem hi)
  exact ⟨⟨by omega, by omega⟩, ⟨by omega, by omega⟩, by unfold maxLen; omega⟩
theorem bd_small {k : Nat} {rs : List RowD} (hk : k ≤ 1000) (h : ∀ r ∈ rs, Bd k r) : SmallDep rs := fun i hi => by
  obtain ⟨_, _, h3, h4, _⟩ := h _ (rat_mem hi)
  omega
theorem drawn_do {k : Nat} {rs : List RowD} {o : OpD} (h : Drawn k rs) (hk : o.kind = 1) (h1 : 0 ≤ o.id) (h2 : o.id ≤ 99) (h3 : o.txt.size ≤ 7) : Drawn (k + 1) (doR rs o) := by
  cases hn : noWhereB rs o
  · rw [doR_put hk hn]
    have hup := whereU_there hn (three_there h.three)
    have hsplit : ∀ r ∈ rs, r ∈ putR rs [⟨o.id, 0, o.txt⟩] (whereU rs o) (whereA rs o) := fun r hr => by
      rw [← List.take_append_drop (placeN rs (whereU rs o) (whereA rs o)) rs, List.mem_append] at hr
      unfold putR
      simp only [List.mem_append]
      rcases hr with hr | hr
      · exact .inl (.inl hr)
      · exact .inr hr
    have hlen : (putR rs [⟨o.id, 0, o.txt⟩] (whereU rs o) (whereA rs o)).length = rs.length + 1 := by
      unfold putR
      have := (placeN_bd (at' := whereA rs o) hup (fun g => whereA_there g)).2
      simp; omega
    refine ⟨by have := h.lo; omega, by have := h.hi; omega, ?_, fun r hr => ?_⟩
    · obtain ⟨r, a, b⟩ := h.three
      exact ⟨r, hsplit r a, b⟩
    · unfold putR at hr
      simp only [List.mem_append, List.map_cons, List.map_nil, List.mem_singleton] at hr
      rcases hr with (hr | hr) | hr
      · exact (h.bd r (List.mem_of_mem_take hr)).mono (by omega)
      · subst hr
        obtain ⟨_, _, q3, q4, _⟩ := h.bd _ (rat_mem hup)
        refine ⟨h1, h2, ?_, ?_, h3⟩
        · show 0 ≤ 0 + ((rat rs (atN rs (whereU rs o))).dep + 1 - 0); omega
        · show 0 + ((rat rs (atN rs (whereU rs o))).dep + 1 - 0) ≤ ((k + 1 : Nat) : Int); omega
      · exact (h.bd r (List.mem_of_mem_drop hr)).mono (by omega)
  · rw [doR_no hk hn]; exact h.mono (by omega)

theorem own_but {w w' : World} {b base : Nat} {e : TypeId} {size : Nat} {v : Value} {n : Nat} {xs : List Value} (h : w.ownsRow base e size v n xs) (hb : But b w.heap.size w w') (hlt : b < base) : w'.ownsRow base e size v n xs := by
  obtain ⟨h1, h2⟩ := h
  refine ⟨h1, ?_⟩
  rcases h2 with h2 | ⟨g, cap, cur, hv, hg, hh, r⟩
  · exact .inl h2
  · have hl : g < w.heap.size := (Array.getElem?_eq_some_iff.1 hh).1
    exact .inr ⟨g, cap, cur, hv, hg, by rw [hb.block g hl (by omega)]; exact hh, r⟩
def t0 : List RowD := [⟨1, 0, ⟨#[]⟩⟩, ⟨2, 0, ⟨#[]⟩⟩, ⟨3, 0, ⟨#[]⟩⟩]
theorem drawn_t0 : Drawn 0 t0 := by
  refine ⟨by decide, by decide, ⟨⟨3, 0, ⟨#[]⟩⟩, by simp [t0], rfl⟩, fun r hr => ?_⟩
  simp only [t0, List.mem_cons, List.not_mem_nil, or_false] at hr
  rcases hr with rfl | rfl | rfl <;> exact ⟨by decide, by decide, by decide, by decide, by decide⟩
theorem specTreeNew_any (w : World) : Calls Tryd.prog 46 #[] w fun e w' => e = .returned (.slice (some ⟨w.heap.size, 0, none⟩) 3 3) ∧ w' = w.alloc (.cells #[.int .i64 1, .int .i64 0, .string ⟨#[]⟩, .int .i64 2, .int .i64 0, .string ⟨#[]⟩, .int .i64 3, .int .i64 0, .string ⟨#[]⟩] 29) := by
  go_enter Tryd.func46, Tryd.ntmps46
  go_wp2
  go_ret
  exact ⟨rfl, rfl⟩
theorem own_t0 (w : World) : (w.alloc (.cells #[.int .i64 1, .int .i64 0, .string ⟨#[]⟩, .int .i64 2, .int .i64 0, .string ⟨#[]⟩, .int .i64 3, .int .i64 0, .string ⟨#[]⟩] 29)).ownsRow w.heap.size 29 3 (.slice (some ⟨w.heap.size, 0, none⟩) 3 3) 3 (cellsL t0) :=
  ⟨rfl, .inr ⟨w.heap.size, 3, _, rfl, Nat.le_refl _, heap_alloc_new _ _, Nat.le_refl _, by unfold maxLen; omega, rfl, rfl⟩⟩
end Go.Proofs.YtiigkjpabbgnpaaDoor
