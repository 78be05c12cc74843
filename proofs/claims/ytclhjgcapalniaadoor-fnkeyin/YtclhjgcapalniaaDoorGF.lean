/-
  Joined texts, each with its own head: what it holds, and its conditions.
-/
import Derived.Test.YtclhjgcapalniaaDoorGA
import Derived.Laws.OwnMore
import Derived.Deep.RegionWith
import Derived.Test.YtclhjgcapalniaaDoorGD

/-
  The model's drawing of texts: of, l71Text. Conditions: as each theorem says.
-/
namespace Go.Proofs.YtclhjgcapalniaaDoor
open Go.ChangeShapes Go.WideShapes Go.ChangeAt Go.RowKit Go.Joins

def DrewStr (N b p M : Nat) (w : World) (e : Ending) (w' : World) : Prop := ∃ s : ByteArray, s.size ≤ M ∧ e = .returned (.string s) ∧ But b w.heap.size w w' ∧ Rd N w' b p
theorem of_any (N b p lb n M : Nat) (w : World) (hr : Rd N w b p) (hp : p < 1000000000) (hn : 1 ≤ n) (hn2 : n ≤ 1000) (hlb : lb < w.heap.size) (hne : lb ≠ b)
    (hs : ∀ i, i < n → ∃ s : ByteArray, w.cell? ⟨lb, i, none⟩ = some (.string s) ∧ s.size ≤ M) :
    Calls Tryd.prog 113 #[.pointer (some ⟨b, 0, none⟩), .slice (some ⟨lb, 0, none⟩) n n] w (DrewStr N b (p + 1) M w) := by
  have HS := Lib.hid hs
  clear hs
  go_enter Tryd.func113, Tryd.ntmps113
  go_wp2_with fail
  refine (pick_any _ _ _ _ _ hr hp (by omega) (by omega)).mono ?_
  rintro e w1 ⟨k, k0, k1, rfl, b1, s1, r1⟩
  obtain ⟨i, rfl⟩ := Int.eq_ofNat_of_zero_le k0
  obtain ⟨s, hc, hsz⟩ := HS.out i (by omega)
  have hc1 : w1.cell? ⟨lb, i, none⟩ = some (.string s) := by rw [b1.cell hlb hne]; exact hc
  clear hc
  go_wp2
  go_ret
  exact ⟨s, hsz, rfl, b1, r1⟩

theorem strs4 (w : World) (s0 s1 s2 s3 : ByteArray) (M : Nat) (h0 : s0.size ≤ M) (h1 : s1.size ≤ M) (h2 : s2.size ≤ M) (h3 : s3.size ≤ M) :
    ∀ i, i < 4 → ∃ s : ByteArray, (w.alloc (.cells #[.string s0, .string s1, .string s2, .string s3] 9)).cell? ⟨w.heap.size, i, none⟩ = some (.string s) ∧ s.size ≤ M := by
  intro i hi
  obtain rfl | rfl | rfl | rfl : i = 0 ∨ i = 1 ∨ i = 2 ∨ i = 3 := by omega
  · exact ⟨s0, by simp [go_sem], h0⟩
  · exact ⟨s1, by simp [go_sem], h1⟩
  · exact ⟨s2, by simp [go_sem], h2⟩
  · exact ⟨s3, by simp [go_sem], h3⟩
theorem l71Text_any (N b p : Nat) (w : World) (hr : Rd N w b p) (hp : p < 1000000) :
    Calls Tryd.prog 95 #[.pointer (some ⟨b, 0, none⟩)] w (DrewStr N b (p + 6) 7 w) := by
  have hbw := hr.2.1
  go_enter Tryd.func95, Tryd.ntmps95
  go_wp2_with fail
  refine (pick_any _ _ _ _ _ hr (by omega) (by omega) (by omega)).mono ?_
  rintro e w1 ⟨k, k0, k1, rfl, b1, s1, r1⟩
  obtain ⟨m, rfl⟩ := Int.eq_ofNat_of_zero_le k0
  go_wp2
  go_loopw [3, 4] (fun s n w' => ∃ (j : Nat) (str : ByteArray), j ≤ 3 ∧ n = .int .i64 j ∧ s = .string str ∧ str.size + j ≤ 3 ∧ But b w.heap.size w w' ∧ Rd N w' b (p + 1 + (3 - j))) (fun _ n _ => (intOf n).toNat)
  case atStart => exact ⟨m, ByteArray.empty, by omega, rfl, rfl, by simp; omega, b1, r1.mono (by omega)⟩
  case round =>
    obtain ⟨j, str, j1, rfl, rfl, j2, bw, rdw⟩ := hrel
    have hsz := bw.size
    by_cases hj : 0 < j
    · go_wp2_with fail
      have al : Below wr.heap.size wr (wr.alloc (.cells #[.string { data := #[97] }, .string { data := #[98] }, .string { data := #[99] }, .string { data := #[100] }] 9)) := (Below.refl _ _).alloc (Nat.le_refl _) _
      refine (of_any N b (p + 1 + (3 - j)) wr.heap.size 4 1 _ (rdw.below al (by omega)) (by omega) (by omega) (by omega) (by simp) (by omega) (strs4 _ _ _ _ _ 1 (by decide) (by decide) (by decide) (by decide))).mono ?_
      rintro e w2 ⟨t, ht, rfl, b2, r2⟩
      have b3 : But b w.heap.size w w2 := (bw.trans ((But.of_below al).mono hsz)).trans (b2.mono (by simp; omega))
      go_wp2
      go_roundw
      case rel => exact ⟨j - 1, str ++ t, by omega, by go_num, rfl, by simp; omega, b3, r2.mono (by omega)⟩
      case measure => simp [intOf]; omega
    · obtain rfl : j = 0 := by omega
      go_wp2_with fail
      refine (pick_any _ _ _ _ _ rdw (by omega) (by omega) (by omega)).mono ?_
      rintro e w2 ⟨i, i0, i1, rfl, b2, s2, r2⟩
      by_cases hi : i = 0
      · subst hi
        go_wp2_with fail
        have al : Below w2.heap.size w2 (w2.alloc (.cells #[.string { data := #[101] }, .string { data := #[32] }, .string { data := #[97, 97, 97, 97] }, .string { data := #[39] }] 9)) := (Below.refl _ _).alloc (Nat.le_refl _) _
        refine (of_any N b _ w2.heap.size 4 4 _ (r2.below al (by omega)) (by omega) (by omega) (by omega) (by simp) (by omega) (strs4 _ _ _ _ _ 4 (by decide) (by decide) (by decide) (by decide))).mono ?_
        rintro e w3 ⟨t, ht, rfl, b3, r3⟩
        have b4 : But b w.heap.size w w3 := ((bw.trans (b2.mono hsz)).trans ((But.of_below al).mono (by omega))).trans (b3.mono (by simp; omega))
        go_wp2
        go_ret
        exact ⟨str ++ t, by simp; omega, rfl, b4, r3.mono (by omega)⟩
      · have hi' := beq_eq_false_iff_ne.2 hi
        clear hi
        go_wp2
        go_ret
        exact ⟨str, by omega, rfl, bw.trans (b2.mono hsz), r2.mono (by omega)⟩
end Go.Proofs.YtclhjgcapalniaaDoor
/-
  The model's drawing of outlines: l71Id, l71Tree. What is drawn is said loosely: how long, and in what bounds. Conditions: as each theorem says.
-/
namespace Go.Proofs.YtclhjgcapalniaaDoor
open Go.ChangeShapes Go.WideShapes Go.ChangeAt Go.RowKit Go.Joins

/-- A number between lo and hi was drawn. -/
def DrewInt (N b p : Nat) (lo hi : Int) (w : World) (e : Ending) (w' : World) : Prop := ∃ z : Int, lo ≤ z ∧ z ≤ hi ∧ e = .returned (.int .i64 z) ∧ But b w.heap.size w w' ∧ Rd N w' b p
theorem l71Id_any (N b p : Nat) (w : World) (hr : Rd N w b p) (hp : p < 1000000) :
    Calls Tryd.prog 94 #[.pointer (some ⟨b, 0, none⟩)] w (DrewInt N b (p + 2) 11 34 w) := by
  go_enter Tryd.func94, Tryd.ntmps94
  go_wp2_with fail
  refine (pick_any _ _ _ _ _ hr (by omega) (by omega) (by omega)).mono ?_
  rintro e w1 ⟨k, k0, k1, rfl, b1, s1, r1⟩
  go_wp2_with fail
  refine (pick_any _ _ _ _ _ r1 (by omega) (by omega) (by omega)).mono ?_
  rintro e w2 ⟨j, j0, j1, rfl, b2, s2, r2⟩
  go_wp2
  go_ret
  exact ⟨_, by omega, by omega, rfl, b1.trans (b2.mono s1), r2⟩

/-! ### what is drawn -/
def Bd (k : Nat) (r : RowD) : Prop := 0 ≤ r.id ∧ r.id ≤ 99 ∧ 0 ≤ r.dep ∧ r.dep ≤ (k : Int) ∧ r.txt.size ≤ 7
structure Drawn (k : Nat) (rs : List RowD) : Prop where
  lo : 3 ≤ rs.length
  hi : rs.length ≤ 3 + k
  three : ∃ r ∈ rs, r.id = 3
  bd : ∀ r ∈ rs, Bd k r
theorem rat_mem {rs : List RowD} {i : Nat} (h : i < rs.length) : rat rs i ∈ rs := by
  simp [rat, h]
theorem Bd.mono {k k' : Nat} {r : RowD} (h : Bd k r) (hk : k ≤ k') : Bd k' r := ⟨h.1, h.2.1, h.2.2.1, by have := h.2.2.2.1; omega, h.2.2.2.2⟩
theorem Drawn.mono {k k' : Nat} {rs : List RowD} (h : Drawn k rs) (hk : k ≤ k') : Drawn k' rs := ⟨h.lo, by have := h.hi; omega, h.three, fun r hr => (h.bd r hr).mono hk⟩
theorem three_there {rs : List RowD} (h : ∃ r ∈ rs, r.id = 3) : thereB rs 3 = true := by
  obtain ⟨r, h1, h2⟩ := h
  obtain ⟨i, hi, rfl⟩ := List.getElem_of_mem h1
  simp only [thereB, decide_eq_true_eq]
  have : rat rs i = rs[i] := by simp [rat, hi]
  rw [← h2, ← this]; exact there_at hi
theorem bd_fit {k : Nat} {rs : List RowD} (hk : k ≤ 1000) (hl : rs.length ≤ 1048576) (h : ∀ r ∈ rs, Bd k r) : Fit rs := by
  refine ⟨hl, fun i hi => ?_⟩
  obtain ⟨h1, h2, h3, h4, h5⟩ := h _ (rat_mem hi)
  exact ⟨⟨by omega, by omega⟩, ⟨by omega, by omega⟩, by unfold maxLen; omega⟩
theorem bd_small {k : Nat} {rs : List RowD} (hk : k ≤ 1000) (h : ∀ r ∈ rs, Bd k r) : SmallDep rs := fun i hi => by
  obtain ⟨_, _, h3, h4, _⟩ := h _ (rat_mem hi)
  omega
theorem drawn_do {k : Nat} {rs : List RowD} {o : OpD} (h : Drawn k rs) (hk : o.kind = 1) (h1 : 0 ≤ o.id) (h2 : o.id ≤ 99) (h3 : o.txt.size ≤ 7) : Drawn (k + 1) (doR rs o) := by
  cases hn : noWhereB rs o
  · rw [doR_put hk hn]
    have hup := whereU_there hn (three_there h.three)
    have hsplit : ∀ r ∈ rs, r ∈ putR rs [⟨o.id, 0, o.txt⟩] (whereU rs o) (whereA rs o) := fun r hr => by
      rw [← List.take_append_drop (placeN rs (whereU rs o) (whereA rs o)) rs, List.mem_append] at hr
      unfold putR
      simp only [List.mem_append]
      rcases hr with hr | hr
      · exact .inl (.inl hr)
      · exact .inr hr
    have hlen : (putR rs [⟨o.id, 0, o.txt⟩] (whereU rs o) (whereA rs o)).length = rs.length + 1 := by
      unfold putR
      have := (placeN_bd (at' := whereA rs o) hup (fun g => whereA_there g)).2
      simp; omega
    refine ⟨by have := h.lo; omega, by have := h.hi; omega, ?_, fun r hr => ?_⟩
    · obtain ⟨r, a, b⟩ := h.three
      exact ⟨r, hsplit r a, b⟩
    · unfold putR at hr
      simp only [List.mem_append, List.map_cons, List.map_nil, List.mem_singleton] at hr
      rcases hr with (hr | hr) | hr
      · exact (h.bd r (List.mem_of_mem_take hr)).mono (by omega)
      · subst hr
        obtain ⟨_, _, q3, q4, _⟩ := h.bd _ (rat_mem hup)
        refine ⟨h1, h2, ?_, ?_, h3⟩
        · show 0 ≤ 0 + ((rat rs (atN rs (whereU rs o))).dep + 1 - 0); omega
        · show 0 + ((rat rs (atN rs (whereU rs o))).dep + 1 - 0) ≤ ((k + 1 : Nat) : Int); omega
      · exact (h.bd r (List.mem_of_mem_drop hr)).mono (by omega)
  · rw [doR_no hk hn]; exact h.mono (by omega)

theorem own_but {w w' : World} {b base : Nat} {e : TypeId} {size : Nat} {v : Value} {n : Nat} {xs : List Value} (h : w.ownsRow base e size v n xs) (hb : But b w.heap.size w w') (hlt : b < base) : w'.ownsRow base e size v n xs := by
  obtain ⟨h1, h2⟩ := h
  refine ⟨h1, ?_⟩
  rcases h2 with h2 | ⟨g, cap, cur, hv, hg, hh, r⟩
  · exact .inl h2
  · have hl : g < w.heap.size := (Array.getElem?_eq_some_iff.1 hh).1
    exact .inr ⟨g, cap, cur, hv, hg, by rw [hb.block g hl (by omega)]; exact hh, r⟩
def t0 : List RowD := [⟨1, 0, ⟨#[]⟩⟩, ⟨2, 0, ⟨#[]⟩⟩, ⟨3, 0, ⟨#[]⟩⟩]
theorem drawn_t0 : Drawn 0 t0 := by
  refine ⟨by decide, by decide, ⟨⟨3, 0, ⟨#[]⟩⟩, by simp [t0], rfl⟩, fun r hr => ?_⟩
  simp only [t0, List.mem_cons, List.not_mem_nil, or_false] at hr
  rcases hr with rfl | rfl | rfl <;> exact ⟨by decide, by decide, by decide, by decide, by decide⟩
theorem specTreeNew_any (w : World) : Calls Tryd.prog 60 #[] w fun e w' => e = .returned (.slice (some ⟨w.heap.size, 0, none⟩) 3 3) ∧ w' = w.alloc (.cells #[.int .i64 1, .int .i64 0, .string ⟨#[]⟩, .int .i64 2, .int .i64 0, .string ⟨#[]⟩, .int .i64 3, .int .i64 0, .string ⟨#[]⟩] 39) := by
  go_enter Tryd.func60, Tryd.ntmps60
  go_wp2
  go_ret
  exact ⟨rfl, rfl⟩
theorem own_t0 (w : World) : (w.alloc (.cells #[.int .i64 1, .int .i64 0, .string ⟨#[]⟩, .int .i64 2, .int .i64 0, .string ⟨#[]⟩, .int .i64 3, .int .i64 0, .string ⟨#[]⟩] 39)).ownsRow w.heap.size 39 3 (.slice (some ⟨w.heap.size, 0, none⟩) 3 3) 3 (cellsL t0) :=
  ⟨rfl, .inr ⟨w.heap.size, 3, _, rfl, Nat.le_refl _, heap_alloc_new _ _, Nat.le_refl _, by unfold maxLen; omega, rfl, rfl⟩⟩
end Go.Proofs.YtclhjgcapalniaaDoor
/-
  The model's drawing of outlines: l71Tree. Conditions: as the theorem says.
-/
namespace Go.Proofs.YtclhjgcapalniaaDoor
open Go.ChangeShapes Go.WideShapes Go.ChangeAt Go.RowKit Go.Joins

/-- What holds of the outline that is being drawn: it lies in a row of the call's own. -/
def Draft (N b p base k : Nat) (w0 w : World) (a : Option Addr) (cap : Nat) (rs : List RowD) : Prop :=
  w.ownsRow base 39 3 (.slice a rs.length cap) rs.length (cellsL rs) ∧ Drawn k rs ∧ But b base w0 w ∧ Rd N w b p ∧ b < base ∧ base ≤ w.heap.size
theorem own_cap {w : World} {base : Nat} {e : TypeId} {size : Nat} {a : Option Addr} {n cap : Nat} {xs : List Value} (h : w.ownsRow base e size (.slice a n cap) n xs) : n ≤ cap ∧ cap ≤ maxLen := by
  rcases h.2 with ⟨h1, h2⟩ | ⟨g, cap', cur, hv, _, _, h1, h2, _⟩
  · cases h1; exact ⟨by omega, Nat.zero_le _⟩
  · cases hv; exact ⟨h1, h2⟩
theorem Draft.pick {N b p base k : Nat} {w0 w w' : World} {a : Option Addr} {cap : Nat} {rs : List RowD} (h : Draft N b p base k w0 w a cap rs) (hb : But b w.heap.size w w') (hr : Rd N w' b (p + 1)) : Draft N b (p + 1) base k w0 w' a cap rs := by
  obtain ⟨h1, h2, h3, h4, h5, h6⟩ := h
  exact ⟨own_but h1 hb h5, h2, h3.trans (hb.mono h6), hr, h5, Nat.le_trans h6 hb.size⟩
theorem Draft.more {N b p q base k : Nat} {w0 w w' : World} {a : Option Addr} {cap : Nat} {rs : List RowD} (h : Draft N b p base k w0 w a cap rs) (hb : But b w.heap.size w w') (hr : Rd N w' b q) : Draft N b q base k w0 w' a cap rs := by
  obtain ⟨h1, h2, h3, h4, h5, h6⟩ := h
  exact ⟨own_but h1 hb h5, h2, h3.trans (hb.mono h6), hr, h5, Nat.le_trans h6 hb.size⟩
theorem Draft.below {N b p base k : Nat} {w0 w w' : World} {a : Option Addr} {cap : Nat} {rs : List RowD} (h : Draft N b p base k w0 w a cap rs) (hb : Below w.heap.size w w') : Draft N b p base k w0 w' a cap rs := by
  obtain ⟨h1, h2, h3, h4, h5, h6⟩ := h
  exact ⟨own_below h1 hb, h2, h3.trans ((But.of_below hb).mono h6), h4.below hb h4.2.1, h5, Nat.le_trans h6 hb.size⟩
theorem Draft.rd {N b p q base k : Nat} {w0 w : World} {a : Option Addr} {cap : Nat} {rs : List RowD} (h : Draft N b p base k w0 w a cap rs) (hq : p ≤ q) : Draft N b q base k w0 w a cap rs := by
  obtain ⟨h1, h2, h3, h4, h5, h6⟩ := h
  exact ⟨h1, h2, h3, h4.mono hq, h5, h6⟩
theorem own_base {w : World} {base base' : Nat} {e : TypeId} {size : Nat} {v : Value} {n : Nat} {xs : List Value} (h : w.ownsRow base' e size v n xs) (hb : base ≤ base') : w.ownsRow base e size v n xs := by
  obtain ⟨h1, h2⟩ := h
  refine ⟨h1, ?_⟩
  rcases h2 with h2 | ⟨g, cap, cur, hv, hg, r⟩
  · exact .inl h2
  · exact .inr ⟨g, cap, cur, hv, Nat.le_trans hb hg, r⟩
/-- A slice of rows in bounds, in new memory that may be written. -/
def Loose (base : Nat) (w : World) (a : Option Addr) (cap : Nat) (rs : List RowD) : Prop :=
  ∃ g off, a = some ⟨g, off, none⟩ ∧ base ≤ g ∧ g < w.heap.size ∧ RowsAt w.heap.size w a rs ∧ (∀ o, w.frozen? ⟨g, o, none⟩ = false) ∧ 2 ≤ rs.length ∧ rs.length ≤ 15 ∧ (∀ r ∈ rs, Bd 20 r) ∧ rs.length ≤ cap ∧ cap ≤ maxLen
/-- An outline was drawn. -/
def DrewTree (N b p : Nat) (w : World) (e : Ending) (w' : World) : Prop :=
  ∃ (a : Option Addr) (cap : Nat) (rs : List RowD), e = .returned (.slice a rs.length cap) ∧ Loose w.heap.size w' a cap rs ∧ But b w.heap.size w w' ∧ Rd N w' b p
theorem own_loose {base : Nat} {w : World} {a : Option Addr} {cap : Nat} {rs : List RowD} (h : w.ownsRow base 39 3 (.slice a rs.length cap) rs.length (cellsL rs)) (h2 : 2 ≤ rs.length) (h3 : rs.length ≤ 15) (hb : ∀ r ∈ rs, Bd 20 r) : Loose base w a cap rs := by
  have hr := rowsAt_own h
  have hc := own_cap h
  rcases h.2 with ⟨_, h0⟩ | ⟨g, cap', cur, hv, hg, hh, _⟩
  · omega
  · cases hv
    exact ⟨g, 0, rfl, hg, (Array.getElem?_eq_some_iff.1 hh).1, hr, fun o => by simp [World.frozen?, hh], h2, h3, hb, hc.1, hc.2⟩
def setDep (rs : List RowD) (k : Nat) (d : Int) : List RowD := rs.modify k (fun r => ⟨r.id, d, r.txt⟩)
theorem mem_modify_all {P : RowD → Prop} {f : RowD → RowD} : ∀ (rs : List RowD) (k : Nat), (∀ r ∈ rs, P r) → (∀ r, P r → P (f r)) → ∀ r ∈ rs.modify k f, P r
  | [], k, _, _ => by simp
  | x :: rs, 0, h, hf => by
    intro r hr
    simp only [List.modify_zero_cons, List.mem_cons] at hr
    rcases hr with rfl | hr
    · exact hf _ (h _ (by simp))
    · exact h _ (by simp [hr])
  | x :: rs, k + 1, h, hf => by
    intro r hr
    simp only [List.modify_succ_cons, List.mem_cons] at hr
    rcases hr with rfl | hr
    · exact h _ (by simp)
    · exact mem_modify_all rs k (fun r hr => h r (by simp [hr])) hf r hr
theorem cellsL_cons (r : RowD) (rs : List RowD) : cellsL (r :: rs) = .int .i64 r.id :: .int .i64 r.dep :: .string r.txt :: cellsL rs := rfl
theorem cellsL_setTxt (t : ByteArray) : ∀ (rs : List RowD) (k : Nat), cellsL (setTxt rs k t) = (cellsL rs).set (k * 3 + 2) (.string t)
  | [], k => by simp [setTxt, cellsL]
  | r :: rs, 0 => by simp [setTxt, cellsL_cons]
  | r :: rs, k + 1 => by
    have ih := cellsL_setTxt t rs k
    unfold setTxt at ih ⊢
    rw [List.modify_succ_cons, cellsL_cons, cellsL_cons, ih, show (k + 1) * 3 + 2 = k * 3 + 2 + 1 + 1 + 1 by omega]
    simp [List.set]
theorem cellsL_setDep (d : Int) : ∀ (rs : List RowD) (k : Nat), cellsL (setDep rs k d) = (cellsL rs).set (k * 3 + 1) (.int .i64 d)
  | [], k => by simp [setDep, cellsL]
  | r :: rs, 0 => by simp [setDep, cellsL_cons]
  | r :: rs, k + 1 => by
    have ih := cellsL_setDep d rs k
    unfold setDep at ih ⊢
    rw [List.modify_succ_cons, cellsL_cons, cellsL_cons, ih, show (k + 1) * 3 + 1 = k * 3 + 1 + 1 + 1 + 1 by omega]
    simp [List.set]
theorem setTxt_len (rs : List RowD) (k : Nat) (t : ByteArray) : (setTxt rs k t).length = rs.length := by simp [setTxt]
theorem setDep_len (rs : List RowD) (k : Nat) (d : Int) : (setDep rs k d).length = rs.length := by simp [setDep]
/-- The outline behind the first loop. -/
def Draft2 (N b p base : Nat) (w0 w : World) (a : Option Addr) (cap : Nat) (rs : List RowD) : Prop :=
  w.ownsRow base 39 3 (.slice a rs.length cap) rs.length (cellsL rs) ∧ (3 ≤ rs.length ∧ rs.length ≤ 13 ∧ ∀ r ∈ rs, Bd 20 r) ∧ But b base w0 w ∧ Rd N w b p ∧ b < base ∧ base ≤ w.heap.size
theorem Draft.loose {N b p base : Nat} {w0 w : World} {a : Option Addr} {cap : Nat} {rs : List RowD} (h : Draft N b p base 10 w0 w a cap rs) : Draft2 N b p base w0 w a cap rs := by
  obtain ⟨h1, h2, h3⟩ := h
  exact ⟨h1, ⟨h2.lo, h2.hi, fun r hr => (h2.bd r hr).mono (by omega)⟩, h3⟩
theorem Draft2.more {N b p q base : Nat} {w0 w w' : World} {a : Option Addr} {cap : Nat} {rs : List RowD} (h : Draft2 N b p base w0 w a cap rs) (hb : But b w.heap.size w w') (hr : Rd N w' b q) : Draft2 N b q base w0 w' a cap rs := by
  obtain ⟨h1, h2, h3, h4, h5, h6⟩ := h
  exact ⟨own_but h1 hb h5, h2, h3.trans (hb.mono h6), hr, h5, Nat.le_trans h6 hb.size⟩
theorem Draft2.rd {N b p q base : Nat} {w0 w : World} {a : Option Addr} {cap : Nat} {rs : List RowD} (h : Draft2 N b p base w0 w a cap rs) (hq : p ≤ q) : Draft2 N b q base w0 w a cap rs := by
  obtain ⟨h1, h2, h3, h4, h5, h6⟩ := h
  exact ⟨h1, h2, h3, h4.mono hq, h5, h6⟩
theorem Draft2.addr {N b p base : Nat} {w0 w : World} {a : Option Addr} {cap : Nat} {rs : List RowD} (h : Draft2 N b p base w0 w a cap rs) : ∃ g, a = some ⟨g, 0, none⟩ ∧ base ≤ g ∧ g < w.heap.size := by
  obtain ⟨h1, ⟨h2, _⟩, _⟩ := h
  rcases h1.2 with ⟨_, h0⟩ | ⟨g, cap', cur, hv, hg, hh, _⟩
  · omega
  · cases hv; exact ⟨g, rfl, hg, (Array.getElem?_eq_some_iff.1 hh).1⟩
theorem Draft2.put {N b p base g cap o : Nat} {w0 w : World} {rs rs' : List RowD} {u : Value} (h : Draft2 N b p base w0 w (some ⟨g, 0, none⟩) cap rs) (hg : base ≤ g) (hl : rs'.length = rs.length) (hc : cellsL rs' = (cellsL rs).set o u) (hb : ∀ r ∈ rs', Bd 20 r) :
    Draft2 N b p base w0 (w.setCell ⟨g, o, none⟩ u) (some ⟨g, 0, none⟩) cap rs' := by
  obtain ⟨h1, ⟨h2, h2', _⟩, h3, h4, h5, h6⟩ := h
  have hB : Below base w (w.setCell ⟨g, o, none⟩ u) := (Below.refl _ _).setCell (p := ⟨g, o, none⟩) hg _
  refine ⟨?_, ⟨by omega, by omega, hb⟩, h3.trans (But.of_below hB), h4.below hB h5, h5, Nat.le_trans h6 hB.size⟩
  rw [hc, hl]; exact (h1.stored o u).1
theorem Draft2.putTxt {N b p base g cap : Nat} {w0 w : World} {rs : List RowD} (h : Draft2 N b p base w0 w (some ⟨g, 0, none⟩) cap rs) (hg : base ≤ g) (k : Nat) :
    Draft2 N b p base w0 (w.setCell ⟨g, k * 3 + 2, none⟩ (.string ⟨#[]⟩)) (some ⟨g, 0, none⟩) cap (setTxt rs k ⟨#[]⟩) :=
  h.put hg (setTxt_len _ _ _) (cellsL_setTxt _ _ _) (mem_modify_all rs k h.2.1.2.2 fun _ hr => ⟨hr.1, hr.2.1, hr.2.2.1, hr.2.2.2.1, by show (ByteArray.mk #[]).size ≤ 7; decide⟩)
theorem Draft2.putDep {N b p base g cap : Nat} {w0 w : World} {rs : List RowD} (h : Draft2 N b p base w0 w (some ⟨g, 0, none⟩) cap rs) (hg : base ≤ g) (k : Nat) (d : Int) (d0 : 0 ≤ d) (d1 : d ≤ 20) :
    Draft2 N b p base w0 (w.setCell ⟨g, k * 3 + 1, none⟩ (.int .i64 d)) (some ⟨g, 0, none⟩) cap (setDep rs k d) :=
  h.put hg (setDep_len _ _ _) (cellsL_setDep _ _ _) (mem_modify_all rs k h.2.1.2.2 fun _ hr => ⟨hr.1, hr.2.1, d0, d1, hr.2.2.2.2⟩)
theorem Draft2.drew {N b p q : Nat} {w w' : World} {a : Option Addr} {cap : Nat} {rs : List RowD} (h : Draft2 N b p w.heap.size w w' a cap rs) (hq : p ≤ q) : DrewTree N b q w (.returned (.slice a rs.length cap)) w' := by
  obtain ⟨h1, ⟨h2, h2', h2''⟩, h3, h4, h5, h6⟩ := h
  exact ⟨a, cap, rs, rfl, own_loose h1 (by omega) (by omega) h2'', h3, h4.mono hq⟩
theorem rowsAt_tail {B : Nat} {w : World} {g off : Nat} {rs : List RowD} (h : RowsAt B w (some ⟨g, off, none⟩) rs) (h1 : 1 ≤ rs.length) : RowsAt B w (some ⟨g, off + 3, none⟩) rs.tail := by
  rcases h with h | ⟨b', off', e, hB, hc⟩
  · omega
  · cases e
    refine .inr ⟨g, off + 3, rfl, hB, fun i hi => ?_⟩
    have hi' : i + 1 < rs.length := by simp at hi; omega
    have := hc (i + 1) hi'
    have e : rat rs.tail i = rat rs (i + 1) := by simp [rat, List.getD_eq_getElem?_getD]
    rw [e, show off + 3 + i * 3 = off + (i + 1) * 3 by omega]; exact this
theorem Draft2.tail {N b p q g cap : Nat} {w w' : World} {rs : List RowD} (h : Draft2 N b p w.heap.size w w' (some ⟨g, 0, none⟩) cap rs) (hq : p ≤ q) (n : Nat) (hn : n + 1 = rs.length) (c : Nat) (hc : c + 1 = cap) : DrewTree N b q w (.returned (.slice (some ⟨g, 3, none⟩) n c)) w' := by
  obtain ⟨h1, ⟨h2, h2', h2''⟩, h3, h4, h5, h6⟩ := h
  obtain ⟨g', off, e, l1, l2, l3, l4, l5, l6, l7, l8, l9⟩ := own_loose h1 (by omega) (by omega) h2''
  cases e
  have hl : rs.tail.length = n := by simp; omega
  refine ⟨_, c, rs.tail, by rw [hl], ⟨g, 3, rfl, l1, l2, rowsAt_tail l3 (by omega), l4, by omega, by omega, fun r hr => l7 r (List.mem_of_mem_tail hr), by omega, by omega⟩, h3, h4.mono hq⟩
theorem kidsL_small {rs : List RowD} {id : Int} {m : Nat} (h : rs.length ≤ m) : (kidsL rs id).length ≤ m := by
  unfold kidsL
  split
  · rename_i h'
    have h1 := kidsOf_len rs (atN rs id) (enR rs (atN rs id) - (atN rs id + 1)) (atN rs id + 1)
    have h2 := (en_spec (D := rdep rs) h').2.1
    unfold kidsAt
    have h3 : enR rs (atN rs id) ≤ rs.length := h2
    omega
  · simp
set_option maxRecDepth 100000 in
set_option maxHeartbeats 4000000 in
theorem l71Tree_any (N b p : Nat) (w : World) (hr : Rd N w b p) (hp : p < 100000) :
    Calls Tryd.prog 54 #[.pointer (some ⟨b, 0, none⟩)] w (DrewTree N b (p + 300) w) := by
  have hbw := hr.2.1
  go_enter Tryd.func54, Tryd.ntmps54
  go_wp2_with fail
  refine (specTreeNew_any w).mono ?_
  rintro e w' ⟨rfl, rfl⟩
  have ax : Below w.heap.size w (w.alloc (.cells #[.int .i64 1, .int .i64 0, .string ⟨#[]⟩, .int .i64 2, .int .i64 0, .string ⟨#[]⟩, .int .i64 3, .int .i64 0, .string ⟨#[]⟩] 39)) := (Below.refl _ _).alloc (Nat.le_refl _) _
  have hD0 : Draft N b p w.heap.size 0 w (w.alloc (.cells #[.int .i64 1, .int .i64 0, .string ⟨#[]⟩, .int .i64 2, .int .i64 0, .string ⟨#[]⟩, .int .i64 3, .int .i64 0, .string ⟨#[]⟩] 39)) (some ⟨w.heap.size, 0, none⟩) 3 t0 :=
    ⟨own_t0 w, drawn_t0, But.of_below ax, hr.below ax hbw, hbw, ax.size⟩
  clear ax
  generalize w.alloc (.cells #[.int .i64 1, .int .i64 0, .string ⟨#[]⟩, .int .i64 2, .int .i64 0, .string ⟨#[]⟩, .int .i64 3, .int .i64 0, .string ⟨#[]⟩] 39) = W at *
  go_wp2_with fail
  refine (pick_any _ _ _ _ _ hD0.2.2.2.1 (by omega) (by omega) (by omega)).mono ?_
  rintro e w1 ⟨k, k0, k1, rfl, b1, s1, r1⟩
  obtain ⟨m, rfl⟩ := Int.eq_ofNat_of_zero_le k0
  have hD1 := hD0.pick b1 r1
  clear hD0 b1 s1 r1
  go_wp2_with fail
  go_loopw [3, 4] (fun t n wr => ∃ (j : Nat) (a : Option Addr) (cap : Nat) (rs : List RowD), j ≤ 10 ∧ n = .int .i64 j ∧ t = .slice a rs.length cap ∧ Draft N b (p + 1 + 20 * (10 - j)) w.heap.size (10 - j) w wr a cap rs) (fun _ n _ => (intOf n).toNat)
  case atStart => exact ⟨m, _, 3, t0, by omega, rfl, rfl, ⟨hD1.1, hD1.2.1.mono (by omega), hD1.2.2.1, hD1.2.2.2.1.mono (by omega), hD1.2.2.2.2⟩⟩
  case round =>
    obtain ⟨j, a, cap, rs, hj, rfl, rfl, hDr⟩ := hrel
    by_cases hj0 : 0 < j
    · have j1 : (0 : Int) < (j : Int) := by omega
      have hlo := hDr.2.1.lo
      have hhi := hDr.2.1.hi
      go_upto_region 6 with fail
      go_cut [23] (fun s wx => ∃ c : Bool, s = .bool c ∧ Draft N b (p + 2 + 20 * (10 - j)) w.heap.size (10 - j) w wx a cap rs)
      case first =>
        by_cases h3 : 3 < rs.length
        · have h3' : (3 : Int) < (rs.length : Int) := by omega
          go_wp2_with fail
          refine (pick_any _ _ _ _ _ hDr.2.2.2.1 (by omega) (by omega) (by omega)).mono ?_
          rintro e w2 ⟨q, q0, q1, rfl, b2, s2, r2⟩
          have hD2 := hDr.pick b2 r2
          go_wp2_with fail
          go_meet
          exact ⟨_, rfl, hD2.rd (by omega)⟩
        · go_wp2_with fail
          go_meet
          exact ⟨false, by first | rfl | simp | (simp; omega), hDr.rd (by omega)⟩
      case rest =>
        obtain ⟨c, rfl, hD2⟩ := hcut
        clear hDr
        go_upto_if 23 with fail
        go_cut [5] (fun s wx => ∃ u : Int, s = .int .i64 u ∧ Draft N b (p + 3 + 20 * (10 - j)) w.heap.size (10 - j) w wx a cap rs)
        case first =>
          cases c
          · go_wp2_with fail
            go_meet
            exact ⟨1, rfl, hD2.rd (by omega)⟩
          · go_wp2_with fail
            refine (pick_any _ _ _ _ _ hD2.2.2.2.1 (by omega) (by omega) (by omega)).mono ?_
            rintro e w3 ⟨q, q0, q1, rfl, b3, s3, r3⟩
            obtain ⟨i, rfl⟩ := Int.eq_ofNat_of_zero_le q0
            have hD3 := hD2.pick b3 r3
            obtain ⟨g, off, rfl, hg, c0, c1, c2⟩ := (rowsAt_own hD3.1).at_ (show i < rs.length by omega)
            clear b3 s3 r3
            go_wp2_with fail
            go_meet
            exact ⟨_, rfl, hD3.rd (by omega)⟩
        case rest =>
          obtain ⟨u, rfl, hD3⟩ := hcut
          clear hD2
          have hfit := bd_fit (k := 10 - j) (by omega) (by omega) hD3.2.1.bd
          have hsm := bd_small (k := 10 - j) (by omega) hD3.2.1.bd
          have hFit := Lib.hid hfit
          have hSm := Lib.hid hsm
          clear hfit hsm
          go_wp2_with fail
          refine (l2Kids_any _ _ _ _ _ _ (Nat.le_refl _) (rowsAt_own hD3.1) hFit.out hSm.out).mono ?_
          rintro e w4 ⟨v4, rfl, ow4, hb4⟩
          obtain ⟨a4, c4, rfl, hc4⟩ := own_slice ow4
          have hD4 := hD3.below hb4
          have hi4 := (ints_of_own ow4)
          have hkl := kidsL_small (id := u) (show rs.length ≤ 13 by omega)
          have hsz4 := hb4.size
          have hb3 := hD3.2.2.2.1.2.1
          clear ow4 hb4 hD3
          generalize kidsL rs u = ks at *
          go_upto_region 10 with fail
          go_cut [42] (fun s wx => ∃ c : Bool, s = .bool c ∧ (c = true → 0 < ks.length) ∧ IntsAt wc.heap.size wx a4 ks ∧ Draft N b (p + 4 + 20 * (10 - j)) w.heap.size (10 - j) w wx a cap rs)
          case first =>
            by_cases hk0 : 0 < ks.length
            · have hk0' : (0 : Int) < (ks.length : Int) := by omega
              go_wp2_with fail
              refine (pick_any _ _ _ _ _ hD4.2.2.2.1 (by omega) (by omega) (by omega)).mono ?_
              rintro e w5 ⟨q, q0, q1, rfl, b5, s5, r5⟩
              have hD5 := hD4.pick b5 r5
              have hi5 := hi4.but b5 (by omega)
              go_wp2_with fail
              go_meet
              exact ⟨_, rfl, fun _ => hk0, hi5, hD5.rd (by omega)⟩
            · go_wp2_with fail
              go_meet
              exact ⟨false, by first | rfl | simp | (simp; omega), fun h => by simp at h, hi4, hD4.rd (by omega)⟩
          case rest =>
            obtain ⟨c, rfl, hc, hi5, hD5⟩ := hcut
            clear hD4 hi4
            go_upto_if 42 with fail
            go_cut [7] (fun s wx => ∃ v : Int, s = .int .i64 v ∧ Draft N b (p + 5 + 20 * (10 - j)) w.heap.size (10 - j) w wx a cap rs)
            case first =>
              cases c
              · go_wp2_with fail
                go_meet
                exact ⟨0, rfl, hD5.rd (by omega)⟩
              · have hk0 := hc rfl
                go_wp2_with fail
                refine (pick_any _ _ _ _ _ hD5.2.2.2.1 (by omega) (by omega) (by omega)).mono ?_
                rintro e w6 ⟨q, q0, q1, rfl, b6, s6, r6⟩
                obtain ⟨i, rfl⟩ := Int.eq_ofNat_of_zero_le q0
                have hD6 := hD5.pick b6 r6
                have hi6 := (hi5.but b6 (by omega)).low
                obtain ⟨g, rfl, hg, c0⟩ := hi6.at_ (show i < ks.length by omega)
                clear b6 s6 r6
                go_wp2_with fail
                go_meet
                exact ⟨_, rfl, hD6.rd (by omega)⟩
            case rest =>
              obtain ⟨v, rfl, hD6⟩ := hcut
              clear hD5 hi5 hc
              go_wp2_with fail
              refine (l71Id_any _ _ _ _ hD6.2.2.2.1 (by omega)).mono ?_
              rintro e w7 ⟨z, z0, z1, rfl, b7, r7⟩
              have hD7 := hD6.more b7 r7
              clear hD6 b7 r7
              go_wp2_with fail
              refine (l71Text_any _ _ _ _ hD7.2.2.2.1 (by omega)).mono ?_
              rintro e w8 ⟨str, hstr, rfl, b8, r8⟩
              have hD8 := hD7.more b8 r8
              clear hD7 b8 r8
              go_wp2_with fail
              refine (l3DoMake_any _ _ _ _ ⟨1, z, u, v, str⟩ _ rfl (Nat.le_refl _) (rowsAt_own hD8.1) hFit.out hSm.out (own_cap hD8.1).1 (own_cap hD8.1).2 (by omega) (three_there hD8.2.1.three) (by omega)).mono ?_
              rintro e w9 ⟨a9, c9, rfl, ow9, hc9, hb9⟩
              have hD9 : Draft N b (p + 1 + 20 * (10 - (j - 1))) w.heap.size (10 - (j - 1)) w w9 a9 c9 (doR rs ⟨1, z, u, v, str⟩) :=
                ⟨own_base ow9 hD8.2.2.2.2.2, (drawn_do hD8.2.1 rfl (by show 0 ≤ z; omega) (by show z ≤ 99; omega) hstr).mono (by omega), hD8.2.2.1.trans ((But.of_below hb9).mono hD8.2.2.2.2.2), (hD8.2.2.2.1.below hb9 hD8.2.2.2.1.2.1).mono (by omega), hD8.2.2.2.2.1, Nat.le_trans hD8.2.2.2.2.2 hb9.size⟩
              clear hD8 ow9 hb9
              generalize doR rs ⟨1, z, u, v, str⟩ = ds at *
              go_wp2
              go_roundw
              case rel => exact ⟨j - 1, _, _, ds, by omega, by go_num, rfl, hD9⟩
              case measure => simp [intOf]; omega
    · have j1 : ¬ (0 : Int) < (j : Int) := by omega
      have j2 : 10 - j = 10 := by omega
      rw [j2] at hDr
      have hE : Draft2 N b (p + 201) w.heap.size w wr a cap rs := (hDr.rd (by omega)).loose
      clear j2
      clear hDr hD1
      obtain ⟨g, rfl, hg, hgl⟩ := hE.addr
      have hlo := hE.2.1.1
      have hhi := hE.2.1.2.1
      go_wp2_with fail
      go_loopw [8] (fun t wx => ∃ (k : Nat) (xs : List RowD), k ≤ rs.length ∧ xs.length = rs.length ∧ t = .int .i64 k ∧ Draft2 N b (p + 201 + k) w.heap.size w wx (some ⟨g, 0, none⟩) cap xs) (fun t _ => rs.length - (intOf t).toNat)
      case atStart => exact ⟨0, rs, Nat.zero_le _, rfl, rfl, hE⟩
      case round =>
        obtain ⟨k, xs, hk, hxl, rfl, hX⟩ := hrel
        clear hE
        by_cases hlt : k < rs.length
        · have i1 : (k : Int) < (rs.length : Int) := by omega
          obtain ⟨g', off', e1, hg', c0, c1, c2⟩ := (rowsAt_own hX.1).at_ (show k < xs.length by omega)
          cases e1
          have z2 := hX.1.frozenAt (k * 3 + 2)
          have hsz : (rat xs k).txt.size ≤ maxLen := by have := (hX.2.1.2.2 _ (rat_mem (show k < xs.length by omega))).2.2.2.2; unfold maxLen; omega
          have hS := hX.putTxt hg k
          rw [Nat.zero_add] at c0 c1 c2
          generalize (rat xs k).txt = str at *
          cases htb : textB str
          · go_wp2_with fail
            refine (l1Text_any _ _ hsz).mono ?_
            rintro e w2 ⟨rfl, rfl⟩
            go_wp2_with fail
            refine (pick_any _ _ _ _ _ hX.2.2.2.1 (by omega) (by omega) (by omega)).mono ?_
            rintro e w3 ⟨q, q0, q1, rfl, b3, s3, r3⟩
            have hX3 := hX.more b3 r3
            have hS3 := hX3.putTxt hg k
            obtain ⟨_, _, e1, _, _, _, d2⟩ := (rowsAt_own hX3.1).at_ (show k < xs.length by omega)
            cases e1
            rw [Nat.zero_add] at d2
            have y2 := hX3.1.frozenAt (k * 3 + 2)
            clear b3 s3 r3 hS c0 c1 c2 z2
            by_cases hq : q = 0
            · subst hq
              go_wp2
              go_roundw
              case rel => exact ⟨k + 1, _, by omega, by rw [setTxt_len]; exact hxl, by go_num, hS3.rd (by omega)⟩
              case measure => simp [intOf]; omega
            · go_wp2
              go_roundw
              case rel => exact ⟨k + 1, xs, by omega, hxl, by go_num, hX3.rd (by omega)⟩
              case measure => simp [intOf]; omega
          · go_wp2_with fail
            refine (l1Text_any _ _ hsz).mono ?_
            rintro e w2 ⟨rfl, rfl⟩
            go_wp2
            go_roundw
            case rel => exact ⟨k + 1, xs, by omega, hxl, by go_num, hX.rd (by omega)⟩
            case measure => simp [intOf]; omega
        · obtain rfl : k = rs.length := by omega
          go_wp2_with fail
          refine (pick_any _ _ _ _ _ hX.2.2.2.1 (by omega) (by omega) (by omega)).mono ?_
          rintro e w3 ⟨q, q0, q1, rfl, b3, s3, r3⟩
          have hX3 := hX.more b3 r3
          clear hX b3 s3 r3
          have hcap := own_cap hX3.1
          rw [hxl] at hcap
          by_cases q00 : q = 0
          · subst q00
            go_wp2_with fail
            refine (pick_any _ _ _ _ _ hX3.2.2.2.1 (by omega) (by omega) (by omega)).mono ?_
            rintro e w4 ⟨q, q2, q3, rfl, b4, s4, r4⟩
            obtain ⟨i, rfl⟩ := Int.eq_ofNat_of_zero_le q2
            have hX4 := hX3.more b4 r4
            clear b4 s4 r4 hX3
            go_wp2_with fail
            refine (pick_any _ _ _ _ _ hX4.2.2.2.1 (by omega) (by omega) (by omega)).mono ?_
            rintro e w5 ⟨d, d0, d1, rfl, b5, s5, r5⟩
            have hX5 := hX4.more b5 r5
            clear b5 s5 r5 hX4
            obtain ⟨_, _, e1, _, _, c1, _⟩ := (rowsAt_own hX5.1).at_ (show i < xs.length by omega)
            cases e1
            rw [Nat.zero_add] at c1
            have z1 := hX5.1.frozenAt (i * 3 + 1)
            have hF := (hX5.putDep hg i d d0 (by omega)).drew (q := p + 300) (by omega)
            rw [setDep_len, hxl] at hF
            have HF := Lib.hid hF
            clear hF hX5
            go_wp2
            go_ret
            exact HF.out
          · by_cases q01 : q = 1
            · subst q01
              go_wp2_with fail
              refine (pick_any _ _ _ _ _ hX3.2.2.2.1 (by omega) (by omega) (by omega)).mono ?_
              rintro e w4 ⟨q, q2, q3, rfl, b4, s4, r4⟩
              obtain ⟨i, rfl⟩ := Int.eq_ofNat_of_zero_le q2
              have hX4 := hX3.more b4 r4
              clear b4 s4 r4 hX3
              obtain ⟨_, _, e1, _, c0, c1, c2⟩ := (rowsAt_own hX4.1).at_ (show i < xs.length by omega)
              cases e1
              rw [Nat.zero_add] at c0 c1 c2
              have hbi := hX4.2.1.2.2 _ (rat_mem (show i < xs.length by omega))
              have hlen : (xs ++ [rat xs i]).length = rs.length + 1 := by simp [hxl]
              have hbs : ∀ r ∈ xs ++ [rat xs i], Bd 20 r := fun r hr => by
                simp only [List.mem_append, List.mem_singleton] at hr
                rcases hr with hr | rfl
                · exact hX4.2.1.2.2 r hr
                · exact hbi
              have HBS := Lib.hid hbs
              have HLEN := Lib.hid hlen
              clear hbs hlen hbi
              obtain ⟨i0, hi, hz0, hz1, hz2⟩ := info_parts infoRow
              have own := hX4.1
              rw [hxl] at own
              have hsz4 := hX4.2.2.2.2.2
              go_wp2_with (at_builtin; refine wpList_append_own _ rfl _ _ 23 rfl w.heap.size 39 i0 (.agg #[.int .i64 0, .int .i64 0, .string ⟨#[]⟩]) 3 32 Tryd.underlying23 hi hz0 hz1 hz2 rfl (by decide) _ _ _ rfl (own.alloc _) ⟨w4.heap.size, 0, none⟩ 1 1 (cellsL [rat xs i]) rfl ?c0 ?c1 ?c2 ?c3 ?c4 ?c5 ?_)
              case c0 => rfl
              case c1 => exact cells_new3 w4 _ _ _ _ _ rfl
              case c2 => exact cellsL_plain _
              case c3 => unfold maxLen; omega
              case c4 => omega
              case c5 => simp; omega
              intro v2 w2 own2 grow2 _
              have hb2 : Below w.heap.size w4 w2 := ((Below.refl _ _).alloc hsz4 (.cells #[.int .i64 (rat xs i).id, .int .i64 (rat xs i).dep, .string (rat xs i).txt] 39)).grown grow2 (by simp; omega) (own_block own)
              obtain ⟨va2, vc2, rfl, _⟩ := own_slice own2
              rw [← cellsL_append, ← HLEN.out] at own2
              have hF : DrewTree N b (p + 300) w (.returned (.slice va2 (rs.length + 1) vc2)) w2 :=
                ⟨va2, vc2, xs ++ [rat xs i], by rw [HLEN.out], own_loose own2 (by rw [HLEN.out]; omega) (by rw [HLEN.out]; omega) HBS.out, hX4.2.2.1.trans (But.of_below hb2), (hX4.2.2.2.1.below hb2 hX4.2.2.2.2.1).mono (by omega)⟩
              have HF := Lib.hid hF
              clear hF own2 grow2 hb2 own hX4 HBS
              go_wp2
              go_ret
              exact HF.out
            · by_cases q02 : q = 2
              · subst q02
                have hF := hX3.tail (q := p + 300) (by omega) (rs.length - 1) (by omega) (cap - 1) (by omega)
                have HF := Lib.hid hF
                clear hF hX3
                have i1 : (1 : Int) ≤ (rs.length : Int) := by omega
                have i2 : (1 : Int) ≤ (cap : Int) := by omega
                have i3 : (rs.length : Int) ≤ (cap : Int) := by omega
                go_wp2
                go_ret
                exact HF.out
              · have hF := hX3.drew (q := p + 300) (by omega)
                rw [hxl] at hF
                have HF := Lib.hid hF
                clear hF hX3
                go_wp2
                go_ret
                exact HF.out
end Go.Proofs.YtclhjgcapalniaaDoor
/-
  The model's drawing of an outline and a row: l71Row. Conditions: as each theorem says.
-/
namespace Go.Proofs.YtclhjgcapalniaaDoor
open Go.ChangeShapes Go.WideShapes Go.ChangeAt Go.RowKit Go.Joins

theorem Loose.but {base b : Nat} {w w' : World} {a : Option Addr} {cap : Nat} {rs : List RowD} (h : Loose base w a cap rs) (hb : But b w.heap.size w w') (hlt : b < base) : Loose base w' a cap rs := by
  obtain ⟨g, off, rfl, h1, h2, h3, h4, h5⟩ := h
  have hs := hb.size
  refine ⟨g, off, rfl, h1, by omega, ?_, fun o => by rw [hb.frozen (p := ⟨g, o, none⟩) h2 (show g ≠ b by omega)]; exact h4 o, h5⟩
  rcases h3 with h3 | ⟨b', off', e, hB, hc⟩
  · exact .inl h3
  · cases e
    refine .inr ⟨g, off, rfl, by omega, fun i hi => ?_⟩
    rw [hb.cell (p := ⟨g, _, none⟩) h2 (show g ≠ b by omega), hb.cell (p := ⟨g, _, none⟩) h2 (show g ≠ b by omega), hb.cell (p := ⟨g, _, none⟩) h2 (show g ≠ b by omega)]
    exact hc i hi
theorem Loose.base {base base' : Nat} {w : World} {a : Option Addr} {cap : Nat} {rs : List RowD} (h : Loose base' w a cap rs) (hb : base ≤ base') : Loose base w a cap rs := by
  obtain ⟨g, off, rfl, h1, h2⟩ := h
  exact ⟨g, off, rfl, Nat.le_trans hb h1, h2⟩
theorem Loose.below {base : Nat} {w w' : World} {a : Option Addr} {cap : Nat} {rs : List RowD} (h : Loose base w a cap rs) (hb : Below w.heap.size w w') : Loose base w' a cap rs := by
  obtain ⟨g, off, rfl, h1, h2, h3, h4, h5⟩ := h
  have hs := hb.size
  exact ⟨g, off, rfl, h1, by omega, (h3.below hb).mono hs, fun o => by rw [hb.frozen (p := ⟨g, o, none⟩) h2]; exact h4 o, h5⟩
theorem Loose.rows {base : Nat} {w : World} {a : Option Addr} {cap : Nat} {rs : List RowD} (h : Loose base w a cap rs) : RowsAt w.heap.size w a rs := by
  obtain ⟨g, off, rfl, h1, h2, h3, h4, h5⟩ := h
  exact h3
theorem Loose.len {base : Nat} {w : World} {a : Option Addr} {cap : Nat} {rs : List RowD} (h : Loose base w a cap rs) : 2 ≤ rs.length ∧ rs.length ≤ 15 := by
  obtain ⟨g, off, rfl, h1, h2, h3, h4, h5, h6, _⟩ := h
  exact ⟨h5, h6⟩
theorem Loose.bd {base : Nat} {w : World} {a : Option Addr} {cap : Nat} {rs : List RowD} (h : Loose base w a cap rs) : ∀ r ∈ rs, Bd 20 r := by
  obtain ⟨g, off, rfl, h1, h2, h3, h4, h5, h6, h7, _⟩ := h
  exact h7
theorem Loose.cap {base : Nat} {w : World} {a : Option Addr} {cap : Nat} {rs : List RowD} (h : Loose base w a cap rs) : rs.length ≤ cap ∧ cap ≤ maxLen := by
  obtain ⟨g, off, rfl, h1, h2, h3, h4, h5, h6, h7, h8, h9⟩ := h
  exact ⟨h8, h9⟩
theorem Loose.fit {base : Nat} {w : World} {a : Option Addr} {cap : Nat} {rs : List RowD} (h : Loose base w a cap rs) : Fit rs := bd_fit (k := 20) (by omega) (by have := h.len; omega) h.bd
theorem Loose.small {base : Nat} {w : World} {a : Option Addr} {cap : Nat} {rs : List RowD} (h : Loose base w a cap rs) : SmallDep rs := bd_small (k := 20) (by omega) h.bd
/-- What holds while rows are drawn. -/
def Hunt (N b p base : Nat) (w0 w : World) (a : Option Addr) (cap : Nat) (rs : List RowD) : Prop :=
  Loose base w a cap rs ∧ But b base w0 w ∧ Rd N w b p ∧ b < base ∧ base ≤ w.heap.size
theorem Hunt.more {N b p q base : Nat} {w0 w w' : World} {a : Option Addr} {cap : Nat} {rs : List RowD} (h : Hunt N b p base w0 w a cap rs) (hb : But b w.heap.size w w') (hr : Rd N w' b q) : Hunt N b q base w0 w' a cap rs := by
  obtain ⟨h1, h2, h3, h4, h5⟩ := h
  exact ⟨h1.but hb h4, h2.trans (hb.mono h5), hr, h4, Nat.le_trans h5 hb.size⟩
theorem Hunt.below {N b p base : Nat} {w0 w w' : World} {a : Option Addr} {cap : Nat} {rs : List RowD} (h : Hunt N b p base w0 w a cap rs) (hb : Below w.heap.size w w') : Hunt N b p base w0 w' a cap rs := by
  obtain ⟨h1, h2, h3, h4, h5⟩ := h
  exact ⟨h1.below hb, h2.trans ((But.of_below hb).mono h5), h3.below hb h3.2.1, h4, Nat.le_trans h5 hb.size⟩
theorem Hunt.rd {N b p q base : Nat} {w0 w : World} {a : Option Addr} {cap : Nat} {rs : List RowD} (h : Hunt N b p base w0 w a cap rs) (hq : p ≤ q) : Hunt N b q base w0 w a cap rs := by
  obtain ⟨h1, h2, h3, h4, h5⟩ := h
  exact ⟨h1, h2, h3.mono hq, h4, h5⟩
theorem Hunt.anew {N b p q base : Nat} {w0 w w' : World} {a a' : Option Addr} {cap cap' : Nat} {rs rs' : List RowD} (h : Hunt N b p base w0 w a cap rs) (hl : Loose w.heap.size w' a' cap' rs') (hb : But b w.heap.size w w') (hr : Rd N w' b q) : Hunt N b q base w0 w' a' cap' rs' := by
  obtain ⟨h1, h2, h3, h4, h5⟩ := h
  exact ⟨hl.base h5, h2.trans (hb.mono h5), hr, h4, Nat.le_trans h5 hb.size⟩
/-- An outline and a row were drawn. -/
def DrewRow (N b p : Nat) (w : World) (e : Ending) (w' : World) : Prop :=
  ∃ (a : Option Addr) (cap : Nat) (rs : List RowD) (z : Int), e = .returned (.tuple #[.slice a rs.length cap, .int .i64 z]) ∧ 0 ≤ z ∧ z ≤ 99 ∧ Loose w.heap.size w' a cap rs ∧ But b w.heap.size w w' ∧ Rd N w' b p
theorem Hunt.drew {N b p q : Nat} {w w' : World} {a : Option Addr} {cap : Nat} {rs : List RowD} (h : Hunt N b p w.heap.size w w' a cap rs) (hq : p ≤ q) (z : Int) (z0 : 0 ≤ z) (z1 : z ≤ 99) : DrewRow N b q w (.returned (.tuple #[.slice a rs.length cap, .int .i64 z])) w' := by
  obtain ⟨h1, h2, h3, h4, h5⟩ := h
  exact ⟨a, cap, rs, z, rfl, z0, z1, h1, h2, h3.mono hq⟩
theorem five (w : World) (z : Int) (z0 : 0 ≤ z) (z1 : z ≤ 99) (i : Nat) (hi : i < 5) : ∃ v : Int, 0 ≤ v ∧ v ≤ 99 ∧ (w.alloc (.cells #[.int .i64 1, .int .i64 2, .int .i64 3, .int .i64 z, .int .i64 0] 3)).cell? ⟨w.heap.size, i, none⟩ = some (.int .i64 v) := by
  obtain rfl | rfl | rfl | rfl | rfl : i = 0 ∨ i = 1 ∨ i = 2 ∨ i = 3 ∨ i = 4 := by omega
  · exact ⟨1, by omega, by omega, by simp [go_sem]⟩
  · exact ⟨2, by omega, by omega, by simp [go_sem]⟩
  · exact ⟨3, by omega, by omega, by simp [go_sem]⟩
  · exact ⟨z, z0, z1, by simp [go_sem]⟩
  · exact ⟨0, by omega, by omega, by simp [go_sem]⟩
theorem five_later {b : Nat} {w w' : World} (z : Int) (z0 : 0 ≤ z) (z1 : z ≤ 99) (hb : But b (w.alloc (.cells #[.int .i64 1, .int .i64 2, .int .i64 3, .int .i64 z, .int .i64 0] 3)).heap.size (w.alloc (.cells #[.int .i64 1, .int .i64 2, .int .i64 3, .int .i64 z, .int .i64 0] 3)) w') (hbw : b < w.heap.size) (i : Nat) (hi : i < 5) : ∃ v : Int, 0 ≤ v ∧ v ≤ 99 ∧ w'.cell? ⟨w.heap.size, i, none⟩ = some (.int .i64 v) := by
  obtain ⟨v, v0, v1, hv⟩ := five w z z0 z1 i hi
  exact ⟨v, v0, v1, by rw [hb.cell (p := ⟨w.heap.size, i, none⟩) (by simp) (show w.heap.size ≠ b by omega)]; exact hv⟩
set_option maxRecDepth 100000 in
set_option maxHeartbeats 4000000 in
theorem l71Row_any (N b p : Nat) (w : World) (hr : Rd N w b p) (hp : p < 90000) :
    Calls Tryd.prog 81 #[.pointer (some ⟨b, 0, none⟩)] w (DrewRow N b (p + 3000) w) := by
  have hbw := hr.2.1
  go_enter Tryd.func81, Tryd.ntmps81
  go_wp2_with fail
  refine (l71Tree_any _ _ _ _ hr (by omega)).mono ?_
  rintro e w1 ⟨a1, cap1, rs1, rfl, l1, b1, r1⟩
  have hH0 : Hunt N b (p + 300) w.heap.size w w1 a1 cap1 rs1 := ⟨l1, b1, r1, hbw, b1.size⟩
  clear l1 b1 r1
  go_wp2_with fail
  go_loopw [4, 5] (fun t i wr => ∃ (k : Nat) (a : Option Addr) (cap : Nat) (rs : List RowD), k ≤ 6 ∧ i = .int .i64 k ∧ t = .slice a rs.length cap ∧ Hunt N b (p + 300 + 400 * k) w.heap.size w wr a cap rs) (fun _ i _ => 6 - (intOf i).toNat)
  case atStart => exact ⟨0, _, _, rs1, by omega, rfl, rfl, hH0⟩
  case round =>
    obtain ⟨k, a, cap, rs, hk, rfl, rfl, hH⟩ := hrel
    clear hH0
    have hlen := hH.1.len
    go_upto_region 3 with fail
    go_cut [15] (fun s wx => ∃ c : Bool, s = .bool c ∧ (c = true → k < 6) ∧ Hunt N b (p + 301 + 400 * k) w.heap.size w wx a cap rs)
    case first =>
      by_cases h6 : k < 6
      · have h6' : (k : Int) < 6 := by omega
        go_wp2_with fail
        refine (pick_any _ _ _ _ _ hH.2.2.1 (by omega) (by omega) (by omega)).mono ?_
        rintro e w2 ⟨q, q0, q1, rfl, b2, s2, r2⟩
        have hH2 := hH.more b2 r2
        go_wp2_with fail
        go_meet
        exact ⟨_, rfl, fun _ => h6, hH2.rd (by omega)⟩
      · have h6' : ¬ (k : Int) < 6 := by omega
        go_wp2_with fail
        go_meet
        exact ⟨false, by first | rfl | simp | (simp; omega), fun h => by simp at h, hH.rd (by omega)⟩
    case rest =>
      obtain ⟨c, rfl, hc, hH2⟩ := hcut
      clear hH
      cases c
      · clear hc
        go_upto_region 10 with fail
        have hHd : Hunt N b (p + 301 + 400 * k) w.heap.size w wc.drew a cap rs := hH2.below ⟨rfl, rfl, rfl, Nat.le_refl _, fun _ _ => rfl⟩
        clear hH2
        go_region_with (first | (go_at_call 94; refine (l71Id_any _ _ _ _ hHd.2.2.1 (by omega)).mono ?_; rintro e w3 ⟨z, z0, z1, rfl, b3, r3⟩) | (go_at_call 55; refine (pick_any _ _ _ _ _ r3 (by omega) (by omega) (by omega)).mono ?_; rintro e w4 ⟨q, q0, q1, rfl, b4, s4, r4⟩; obtain ⟨i, rfl⟩ := Int.eq_ofNat_of_zero_le q0; obtain ⟨v, v0, v1, hv⟩ := five w4 z (by omega) (by omega) i (by omega)) | (go_at_call 55; refine (pick_any _ _ _ _ _ (r3.below ((Below.refl _ _).alloc (Nat.le_refl _) _) r3.2.1) (by omega) (by omega) (by omega)).mono ?_; rintro e w4 ⟨q, q0, q1, rfl, b4, s4, r4⟩; obtain ⟨i, rfl⟩ := Int.eq_ofNat_of_zero_le q0; obtain ⟨v, v0, v1, hv⟩ := five_later z (by omega) (by omega) b4 r3.2.1 i (by omega)))
        · have HF := Lib.hid ((((hHd.more b3 r3).below ((Below.refl _ _).alloc (Nat.le_refl _) _)).more b4 r4).drew (q := p + 3000) (by omega) v v0 v1)
          go_wp2
          go_ret2
          exact HF.out
        · have HF := Lib.hid ((((hHd.more b3 r3).more b4 r4).below ((Below.refl _ _).alloc (Nat.le_refl _) (.cells #[.int .i64 1, .int .i64 2, .int .i64 3, .int .i64 z, .int .i64 0] 3))).drew (q := p + 3000) (by omega) v v0 v1)
          go_wp2
          go_ret2
          exact HF.out
      · have h6 := hc rfl
        clear hc
        go_wp2_with fail
        refine (pick_any _ _ _ _ _ hH2.2.2.1 (by omega) (by omega) (by omega)).mono ?_
        rintro e w3 ⟨q, q0, q1, rfl, b3, s3, r3⟩
        obtain ⟨i, rfl⟩ := Int.eq_ofNat_of_zero_le q0
        have hH3 := hH2.more b3 r3
        clear hH2 b3 s3 r3
        have hbd := hH3.1.bd _ (rat_mem (show i < rs.length by omega))
        obtain ⟨g, off, rfl, hg, c0, c1, c2⟩ := hH3.1.rows.at_ (show i < rs.length by omega)
        have z0 := hbd.1
        have z1 := hbd.2.1
        clear hbd
        generalize (rat rs i).id = z at *
        go_wp2_with fail
        refine (l1Made_any _ _ ⟨by omega, by omega⟩).mono ?_
        rintro e w4 ⟨rfl, rfl⟩
        cases hmb : madeB z
        · by_cases k3 : k = 3
          · subst k3
            go_wp2_with fail
            refine (l71Tree_any _ _ _ _ hH3.2.2.1 (by omega)).mono ?_
            rintro e w5 ⟨a5, cap5, rs5, rfl, l5, b5, r5⟩
            have hH5 := hH3.anew l5 b5 r5
            clear hH3 l5 b5 r5 c0 c1 c2
            go_wp2
            go_roundw
            case rel => exact ⟨4, _, _, rs5, by omega, by go_num, rfl, hH5.rd (by omega)⟩
            case measure => simp [intOf]
          · have k3' : ¬ (k : Int) = 3 := by omega
            go_wp2
            go_roundw
            case rel => exact ⟨k + 1, _, _, rs, by omega, by go_num, rfl, hH3.rd (by omega)⟩
            case measure => simp [intOf]; omega
        · have HF := Lib.hid (hH3.drew (q := p + 3000) (by omega) z z0 z1)
          go_wp2
          go_ret2
          exact HF.out
end Go.Proofs.YtclhjgcapalniaaDoor
/-
  The model's drawing of a change: l71Op. Conditions: as each theorem says.
-/
namespace Go.Proofs.YtclhjgcapalniaaDoor
open Go.ChangeShapes Go.WideShapes Go.ChangeAt Go.RowKit Go.Joins

/-- The fields of a drawn change. -/
structure OpS (o : OpD) : Prop where
  kind : 0 ≤ o.kind ∧ o.kind ≤ 99
  id : 0 ≤ o.id ∧ o.id ≤ 99
  up : 0 ≤ o.up ∧ o.up ≤ 99
  at_ : 0 ≤ o.at_ ∧ o.at_ ≤ 99
  txt : o.txt.size ≤ 7
theorem OpS.fit {o : OpD} (h : OpS o) : OpFit o := ⟨⟨by have := h.id; omega, by have := h.id; omega⟩, ⟨by have := h.up; omega, by have := h.up; omega⟩, ⟨by have := h.at_; omega, by have := h.at_; omega⟩, by have := h.txt; unfold maxLen; omega⟩
def DrewOp (N b p : Nat) (w : World) (e : Ending) (w' : World) : Prop :=
  ∃ o : OpD, OpS o ∧ e = .returned (.agg #[.int .i64 o.kind, .int .i64 o.id, .int .i64 o.up, .int .i64 o.at_, .string o.txt]) ∧ But b w.heap.size w w' ∧ Rd N w' b p
/-- Block B is a variable's box that holds a change. -/
def OBox (w : World) (B : Nat) (o : OpD) : Prop := w.heap[B]? = some (.cells #[.int .i64 o.kind, .int .i64 o.id, .int .i64 o.up, .int .i64 o.at_, .string o.txt] 27 (0, 0))
theorem OBox.lt {w : World} {B : Nat} {o : OpD} (h : OBox w B o) : B < w.heap.size := (Array.getElem?_eq_some_iff.1 h).1
theorem OBox.cells {w : World} {B : Nat} {o : OpD} (h : OBox w B o) : w.cell? ⟨B, 0, none⟩ = some (.int .i64 o.kind) ∧ w.cell? ⟨B, 1, none⟩ = some (.int .i64 o.id) ∧ w.cell? ⟨B, 2, none⟩ = some (.int .i64 o.up) ∧ w.cell? ⟨B, 3, none⟩ = some (.int .i64 o.at_) ∧ w.cell? ⟨B, 4, none⟩ = some (.string o.txt) := by
  refine ⟨?_, ?_, ?_, ?_, ?_⟩ <;> simp [World.cell?, show w.heap[B]? = _ from h]
theorem OBox.frozen {w : World} {B : Nat} {o : OpD} (h : OBox w B o) (k : Nat) : w.frozen? ⟨B, k, none⟩ = false := by simp [World.frozen?, show w.heap[B]? = _ from h]
theorem OBox.but {w w' : World} {B b n : Nat} {o : OpD} (h : OBox w B o) (hb : But b n w w') (hn : B < n) (hne : B ≠ b) : OBox w' B o := (hb.block B hn hne).trans h
theorem OBox.below {w w' : World} {B n : Nat} {o : OpD} (h : OBox w B o) (hb : Below n w w') (hn : B < n) : OBox w' B o := (hb.block B hn).trans h
theorem OBox.new (w : World) (o : OpD) : OBox (w.alloc (.cells #[.int .i64 o.kind, .int .i64 o.id, .int .i64 o.up, .int .i64 o.at_, .string o.txt] 27)) w.heap.size o := heap_alloc_new _ _
theorem OBox.set0 {w : World} {B : Nat} {o : OpD} (h : OBox w B o) (v : Int) : OBox (w.setCell ⟨B, 0, none⟩ (.int .i64 v)) B ⟨v, o.id, o.up, o.at_, o.txt⟩ := by unfold OBox; rw [blk_set h]; simp
theorem OBox.set1 {w : World} {B : Nat} {o : OpD} (h : OBox w B o) (v : Int) : OBox (w.setCell ⟨B, 1, none⟩ (.int .i64 v)) B ⟨o.kind, v, o.up, o.at_, o.txt⟩ := by unfold OBox; rw [blk_set h]; simp
theorem OBox.set2 {w : World} {B : Nat} {o : OpD} (h : OBox w B o) (v : Int) : OBox (w.setCell ⟨B, 2, none⟩ (.int .i64 v)) B ⟨o.kind, o.id, v, o.at_, o.txt⟩ := by unfold OBox; rw [blk_set h]; simp
theorem OBox.set3 {w : World} {B : Nat} {o : OpD} (h : OBox w B o) (v : Int) : OBox (w.setCell ⟨B, 3, none⟩ (.int .i64 v)) B ⟨o.kind, o.id, o.up, v, o.txt⟩ := by unfold OBox; rw [blk_set h]; simp
theorem OBox.set4 {w : World} {B : Nat} {o : OpD} (h : OBox w B o) (t : ByteArray) : OBox (w.setCell ⟨B, 4, none⟩ (.string t)) B ⟨o.kind, o.id, o.up, o.at_, t⟩ := by unfold OBox; rw [blk_set h]; simp
/-- What holds while a change is drawn: block B is its box; the first new block is the result's. -/
def oz : OpD := ⟨0, 0, 0, 0, ⟨#[]⟩⟩
def OHunt (N b p B : Nat) (w0 w : World) (o : OpD) : Prop := OBox w B o ∧ But b w0.heap.size w0 w ∧ Rd N w b p ∧ b < w0.heap.size ∧ w0.heap.size ≤ B ∧ OBox w w0.heap.size oz
theorem OHunt.more {N b p q B : Nat} {w0 w w' : World} {o : OpD} (h : OHunt N b p B w0 w o) (hb : But b w.heap.size w w') (hr : Rd N w' b q) : OHunt N b q B w0 w' o := by
  obtain ⟨h1, h2, h3, h4, h5, h6⟩ := h
  exact ⟨h1.but hb h1.lt (by omega), h2.trans (hb.mono h2.size), hr, h4, h5, h6.but hb h6.lt (by omega)⟩
theorem OHunt.below {N b p B : Nat} {w0 w w' : World} {o : OpD} (h : OHunt N b p B w0 w o) (hb : Below w.heap.size w w') : OHunt N b p B w0 w' o := by
  obtain ⟨h1, h2, h3, h4, h5, h6⟩ := h
  exact ⟨h1.below hb h1.lt, h2.trans ((But.of_below hb).mono h2.size), h3.below hb h3.2.1, h4, h5, h6.below hb h6.lt⟩
theorem OHunt.rd {N b p q B : Nat} {w0 w : World} {o : OpD} (h : OHunt N b p B w0 w o) (hq : p ≤ q) : OHunt N b q B w0 w o := by
  obtain ⟨h1, h2, h3, h4, h5, h6⟩ := h
  exact ⟨h1, h2, h3.mono hq, h4, h5, h6⟩
theorem OHunt.put {N b p B k : Nat} {w0 w : World} {o o' : OpD} {v : Value} (h : OHunt N b p B w0 w o) (h' : OBox (w.setCell ⟨B, k, none⟩ v) B o') (hne : w0.heap.size ≠ B) : OHunt N b p B w0 (w.setCell ⟨B, k, none⟩ v) o' := by
  obtain ⟨h1, h2, h3, h4, h5, h6⟩ := h
  have hB : Below w0.heap.size w (w.setCell ⟨B, k, none⟩ v) := (Below.refl _ _).setCell (p := ⟨B, k, none⟩) h5 _
  exact ⟨h', h2.trans (But.of_below hB), h3.below hB h4, h4, h5, (Below.heap_setCell _ _ _ _ hne).trans h6⟩
/-- What the result's box is given. -/
def given (w : World) (B : Nat) (o : OpD) : World := ((((w.setCell ⟨B, 0, none⟩ (.int .i64 o.kind)).setCell ⟨B, 1, none⟩ (.int .i64 o.id)).setCell ⟨B, 2, none⟩ (.int .i64 o.up)).setCell ⟨B, 3, none⟩ (.int .i64 o.at_)).setCell ⟨B, 4, none⟩ (.string o.txt)
theorem OHunt.drew {N b p q B : Nat} {w w' : World} {o : OpD} (h : OHunt N b p B w w' o) (hq : p ≤ q) (ho : OpS o) : DrewOp N b q w (.returned (.agg #[.int .i64 o.kind, .int .i64 o.id, .int .i64 o.up, .int .i64 o.at_, .string o.txt])) (given w' w.heap.size o) := by
  have hB : Below w.heap.size w' (given w' w.heap.size o) := by
    unfold given
    exact (((((Below.refl _ _).setCell (p := ⟨w.heap.size, 0, none⟩) (Nat.le_refl _) _).setCell (p := ⟨w.heap.size, 1, none⟩) (Nat.le_refl _) _).setCell (p := ⟨w.heap.size, 2, none⟩) (Nat.le_refl _) _).setCell (p := ⟨w.heap.size, 3, none⟩) (Nat.le_refl _) _).setCell (p := ⟨w.heap.size, 4, none⟩) (Nat.le_refl _) _
  exact ⟨o, ho, rfl, h.2.1.trans (But.of_below hB), (h.2.2.1.mono hq).below hB h.2.2.2.1⟩
theorem arr5 {b : Nat} {w w' : World} (z : Int) (z0 : 0 ≤ z) (z1 : z ≤ 99) (hb : But b (w.alloc (.cells #[.int .i64 1, .int .i64 1, .int .i64 z, .int .i64 2, .int .i64 3] 3)).heap.size (w.alloc (.cells #[.int .i64 1, .int .i64 1, .int .i64 z, .int .i64 2, .int .i64 3] 3)) w') (hbw : b < w.heap.size) (i : Nat) (hi : i < 5) : ∃ v : Int, 0 ≤ v ∧ v ≤ 99 ∧ w'.cell? ⟨w.heap.size, i, none⟩ = some (.int .i64 v) := by
  have hc : ∀ j, w'.cell? ⟨w.heap.size, j, none⟩ = (w.alloc (.cells #[.int .i64 1, .int .i64 1, .int .i64 z, .int .i64 2, .int .i64 3] 3)).cell? ⟨w.heap.size, j, none⟩ := fun j => hb.cell (p := ⟨w.heap.size, j, none⟩) (by simp) (show w.heap.size ≠ b by omega)
  obtain rfl | rfl | rfl | rfl | rfl : i = 0 ∨ i = 1 ∨ i = 2 ∨ i = 3 ∨ i = 4 := by omega
  · exact ⟨1, by omega, by omega, by rw [hc]; simp [go_sem]⟩
  · exact ⟨1, by omega, by omega, by rw [hc]; simp [go_sem]⟩
  · exact ⟨z, z0, z1, by rw [hc]; simp [go_sem]⟩
  · exact ⟨2, by omega, by omega, by rw [hc]; simp [go_sem]⟩
  · exact ⟨3, by omega, by omega, by rw [hc]; simp [go_sem]⟩
theorem arr2 {b : Nat} {w w' : World} (z : Int) (z0 : 0 ≤ z) (z1 : z ≤ 99) (hb : But b (w.alloc (.cells #[.int .i64 0, .int .i64 z] 3)).heap.size (w.alloc (.cells #[.int .i64 0, .int .i64 z] 3)) w') (hbw : b < w.heap.size) (i : Nat) (hi : i < 2) : ∃ v : Int, 0 ≤ v ∧ v ≤ 99 ∧ w'.cell? ⟨w.heap.size, i, none⟩ = some (.int .i64 v) := by
  have hc : ∀ j, w'.cell? ⟨w.heap.size, j, none⟩ = (w.alloc (.cells #[.int .i64 0, .int .i64 z] 3)).cell? ⟨w.heap.size, j, none⟩ := fun j => hb.cell (p := ⟨w.heap.size, j, none⟩) (by simp) (show w.heap.size ≠ b by omega)
  obtain rfl | rfl : i = 0 ∨ i = 1 := by omega
  · exact ⟨0, by omega, by omega, by rw [hc]; simp [go_sem]⟩
  · exact ⟨z, z0, z1, by rw [hc]; simp [go_sem]⟩
set_option maxRecDepth 100000 in
set_option maxHeartbeats 4000000 in
theorem l71Op_any (N b p : Nat) (w : World) (hr : Rd N w b p) (hp : p < 90000) :
    Calls Tryd.prog 71 #[.pointer (some ⟨b, 0, none⟩)] w (DrewOp N b (p + 20) w) := by
  have hbw := hr.2.1
  have hal : Below w.heap.size w (w.alloc (.cells #[.int .i64 0, .int .i64 0, .int .i64 0, .int .i64 0, .string ⟨#[]⟩] 27)) := (Below.refl _ _).alloc (Nat.le_refl _) _
  have hH0 : OHunt N b p w.heap.size w (w.alloc (.cells #[.int .i64 0, .int .i64 0, .int .i64 0, .int .i64 0, .string ⟨#[]⟩] 27)) ⟨0, 0, 0, 0, ⟨#[]⟩⟩ := ⟨OBox.new w ⟨0, 0, 0, 0, ⟨#[]⟩⟩, But.of_below hal, hr.below hal hbw, hbw, Nat.le_refl _, OBox.new w oz⟩
  clear hal
  go_enter Tryd.func71, Tryd.ntmps71
  go_wp2_with fail
  refine (l71Id_any _ _ _ _ hH0.2.2.1 (by omega)).mono ?_
  rintro e w1 ⟨i1, i1a, i1b, rfl, b1, r1⟩
  have hH1 := hH0.more b1 r1
  clear b1 r1 hH0
  go_wp2_with fail
  refine (l71Text_any _ _ _ _ hH1.2.2.1 (by omega)).mono ?_
  rintro e w2 ⟨t, ht, rfl, b2, r2⟩
  have hH2 := hH1.more b2 r2
  clear hH1 b2 r2
  have hal : Below w2.heap.size w2 (w2.alloc (.cells #[.int .i64 2, .int .i64 i1, .int .i64 0, .int .i64 0, .string t] 27)) := (Below.refl _ _).alloc (Nat.le_refl _) _
  have hH3 : OHunt N b (p + 2 + 6) w2.heap.size w (w2.alloc (.cells #[.int .i64 2, .int .i64 i1, .int .i64 0, .int .i64 0, .string t] 27)) ⟨2, i1, 0, 0, t⟩ :=
    ⟨OBox.new w2 ⟨2, i1, 0, 0, t⟩, hH2.2.1.trans ((But.of_below hal).mono hH2.2.1.size), hH2.2.2.1.below hal hH2.2.2.1.2.1, hbw, hH2.2.1.size, hH2.2.2.2.2.2.below hal hH2.2.2.2.2.2.lt⟩
  have hne : w.heap.size ≠ w2.heap.size := Nat.ne_of_lt hH2.2.2.2.2.2.lt
  clear hal hH2
  go_wp2_with fail
  refine (l71Id_any _ _ _ _ hH3.2.2.1 (by omega)).mono ?_
  rintro e w4 ⟨u1, u1a, u1b, rfl, b4, r4⟩
  have hH4 := hH3.more b4 r4
  clear hH3 b4 r4
  have hH4a := hH4.below ((Below.refl _ w4).alloc (Nat.le_refl _) (.cells #[.int .i64 1, .int .i64 1, .int .i64 u1, .int .i64 2, .int .i64 3] 3))
  have hb4 := hH4.2.2.1.2.1
  clear hH4
  go_wp2_with fail
  refine (pick_any _ _ _ _ _ hH4a.2.2.1 (by omega) (by omega) (by omega)).mono ?_
  rintro e w5 ⟨q, q0, q1, rfl, b5, s5, r5⟩
  obtain ⟨k, rfl⟩ := Int.eq_ofNat_of_zero_le q0
  obtain ⟨uu, uu0, uu1, hu⟩ := arr5 u1 (by omega) (by omega) b5 hb4 k (by omega)
  have hH5 := hH4a.more b5 r5
  have i5 : (k : Int) < 5 := by omega
  clear hH4a b5 s5 r5
  go_wp2_with fail
  refine (l71Id_any _ _ _ _ hH5.2.2.1 (by omega)).mono ?_
  rintro e w6 ⟨a1, a1a, a1b, rfl, b6, r6⟩
  have hH6 := hH5.more b6 r6
  clear hH5 b6 r6 hu
  have hH6a := hH6.below ((Below.refl _ w6).alloc (Nat.le_refl _) (.cells #[.int .i64 0, .int .i64 a1] 3))
  have hb6 := hH6.2.2.1.2.1
  clear hH6
  go_wp2_with fail
  refine (pick_any _ _ _ _ _ hH6a.2.2.1 (by omega) (by omega) (by omega)).mono ?_
  rintro e w7 ⟨q, p0, p1, rfl, b7, s7, r7⟩
  obtain ⟨j, rfl⟩ := Int.eq_ofNat_of_zero_le p0
  obtain ⟨aa, aa0, aa1, ha⟩ := arr2 a1 (by omega) (by omega) b7 hb6 j (by omega)
  have hH7 := hH6a.more b7 r7
  have i2 : (j : Int) < 2 := by omega
  clear hH6a b7 s7 r7
  go_wp2_with fail
  refine (pick_any _ _ _ _ _ hH7.2.2.1 (by omega) (by omega) (by omega)).mono ?_
  rintro e w8 ⟨q, q80, q81, rfl, b8, s8, r8⟩
  have hH8 := hH7.more b8 r8
  clear hH7 b8 s8 r8 ha i2 i5
  obtain ⟨c0, c1, c2, c3, c4⟩ := hH8.1.cells
  have z0 := hH8.1.frozen 0
  have z1 := hH8.1.frozen 1
  have z2 := hH8.1.frozen 2
  have z3 := hH8.1.frozen 3
  have z4 := hH8.1.frozen 4
  rcases (show q = 0 ∨ q = 1 ∨ q = 2 ∨ q = 3 ∨ q = 4 by omega) with k | k | k | k | k
  · subst k
    have hS1 := hH8.put (hH8.1.set0 1) hne
    have hS2 := hS1.put (hS1.1.set1 i1) hne
    have hS3 := hS2.put (hS2.1.set2 uu) hne
    have hS4 := hS3.put (hS3.1.set3 aa) hne
    have hS5 := hS4.put (hS4.1.set4 t) hne
    clear hH8 hS1 hS2 hS3 hS4
    go_wp2_with fail
    refine (pick_any _ _ _ _ _ hS5.2.2.1 (by omega) (by omega) (by omega)).mono ?_
    rintro e w9 ⟨q9, q90, q91, rfl, b9, s9, r9⟩
    have hH9 := hS5.more b9 r9
    clear hS5 b9 s9 r9
    obtain ⟨c0, c1, c2, c3, c4⟩ := hH9.1.cells
    have z0 := hH9.1.frozen 0
    have z1 := hH9.1.frozen 1
    have z2 := hH9.1.frozen 2
    have z3 := hH9.1.frozen 3
    have z4 := hH9.1.frozen 4
    by_cases k0 : q9 = 0
    · subst k0
      go_wp2_with fail
      refine (pick_any _ _ _ _ _ hH9.2.2.1 (by omega) (by omega) (by omega)).mono ?_
      rintro e wa ⟨qa, qa0, qa1, rfl, ba, sa, ra⟩
      have hHa := hH9.more ba ra
      clear hH9 ba sa ra c0 c1 c2 c3 c4 z0 z1 z2 z3 z4
      obtain ⟨c0, c1, c2, c3, c4⟩ := hHa.1.cells
      have z0 := hHa.1.frozen 0
      have z1 := hHa.1.frozen 1
      have z2 := hHa.1.frozen 2
      have z3 := hHa.1.frozen 3
      have z4 := hHa.1.frozen 4
      have hHb := hHa.put (hHa.1.set0 qa) hne
      clear hHa
      obtain ⟨d0, d1, d2, d3, d4⟩ := hHb.2.2.2.2.2.cells
      have y0 := hHb.2.2.2.2.2.frozen 0
      have y1 := hHb.2.2.2.2.2.frozen 1
      have y2 := hHb.2.2.2.2.2.frozen 2
      have y3 := hHb.2.2.2.2.2.frozen 3
      have y4 := hHb.2.2.2.2.2.frozen 4
      have HF := Lib.hid (hHb.drew (q := p + 20) (by omega) ⟨⟨by (try dsimp only); omega, by (try dsimp only); omega⟩, ⟨by (try dsimp only); omega, by (try dsimp only); omega⟩, ⟨by (try dsimp only); omega, by (try dsimp only); omega⟩, ⟨by (try dsimp only); omega, by (try dsimp only); omega⟩, by first | exact ht | exact Nat.zero_le _⟩)
      go_wp2
      exact bodyPost_ret (by simp [results, Tryd.results71, go_sem, d0, d1, d2, d3, d4]) rfl HF.out
    · by_cases k1 : q9 = 1
      · subst k1
        go_wp2_with fail
        refine (pick_any _ _ _ _ _ hH9.2.2.1 (by omega) (by omega) (by omega)).mono ?_
        rintro e wa ⟨qa, qa0, qa1, rfl, ba, sa, ra⟩
        have hHa := hH9.more ba ra
        clear hH9 ba sa ra c0 c1 c2 c3 c4 z0 z1 z2 z3 z4
        obtain ⟨c0, c1, c2, c3, c4⟩ := hHa.1.cells
        have z0 := hHa.1.frozen 0
        have z1 := hHa.1.frozen 1
        have z2 := hHa.1.frozen 2
        have z3 := hHa.1.frozen 3
        have z4 := hHa.1.frozen 4
        have hHb := hHa.put (hHa.1.set1 qa) hne
        clear hHa
        obtain ⟨d0, d1, d2, d3, d4⟩ := hHb.2.2.2.2.2.cells
        have y0 := hHb.2.2.2.2.2.frozen 0
        have y1 := hHb.2.2.2.2.2.frozen 1
        have y2 := hHb.2.2.2.2.2.frozen 2
        have y3 := hHb.2.2.2.2.2.frozen 3
        have y4 := hHb.2.2.2.2.2.frozen 4
        have HF := Lib.hid (hHb.drew (q := p + 20) (by omega) ⟨⟨by (try dsimp only); omega, by (try dsimp only); omega⟩, ⟨by (try dsimp only); omega, by (try dsimp only); omega⟩, ⟨by (try dsimp only); omega, by (try dsimp only); omega⟩, ⟨by (try dsimp only); omega, by (try dsimp only); omega⟩, by first | exact ht | exact Nat.zero_le _⟩)
        go_wp2
        exact bodyPost_ret (by simp [results, Tryd.results71, go_sem, d0, d1, d2, d3, d4]) rfl HF.out
      · by_cases k2 : q9 = 2
        · subst k2
          go_wp2_with fail
          refine (pick_any _ _ _ _ _ hH9.2.2.1 (by omega) (by omega) (by omega)).mono ?_
          rintro e wa ⟨qa, qa0, qa1, rfl, ba, sa, ra⟩
          have hHa := hH9.more ba ra
          clear hH9 ba sa ra c0 c1 c2 c3 c4 z0 z1 z2 z3 z4
          obtain ⟨c0, c1, c2, c3, c4⟩ := hHa.1.cells
          have z0 := hHa.1.frozen 0
          have z1 := hHa.1.frozen 1
          have z2 := hHa.1.frozen 2
          have z3 := hHa.1.frozen 3
          have z4 := hHa.1.frozen 4
          have hHb := hHa.put (hHa.1.set2 qa) hne
          clear hHa
          obtain ⟨d0, d1, d2, d3, d4⟩ := hHb.2.2.2.2.2.cells
          have y0 := hHb.2.2.2.2.2.frozen 0
          have y1 := hHb.2.2.2.2.2.frozen 1
          have y2 := hHb.2.2.2.2.2.frozen 2
          have y3 := hHb.2.2.2.2.2.frozen 3
          have y4 := hHb.2.2.2.2.2.frozen 4
          have HF := Lib.hid (hHb.drew (q := p + 20) (by omega) ⟨⟨by (try dsimp only); omega, by (try dsimp only); omega⟩, ⟨by (try dsimp only); omega, by (try dsimp only); omega⟩, ⟨by (try dsimp only); omega, by (try dsimp only); omega⟩, ⟨by (try dsimp only); omega, by (try dsimp only); omega⟩, by first | exact ht | exact Nat.zero_le _⟩)
          go_wp2
          exact bodyPost_ret (by simp [results, Tryd.results71, go_sem, d0, d1, d2, d3, d4]) rfl HF.out
        · by_cases k3 : q9 = 3
          · subst k3
            go_wp2_with fail
            refine (pick_any _ _ _ _ _ hH9.2.2.1 (by omega) (by omega) (by omega)).mono ?_
            rintro e wa ⟨qa, qa0, qa1, rfl, ba, sa, ra⟩
            have hHa := hH9.more ba ra
            clear hH9 ba sa ra c0 c1 c2 c3 c4 z0 z1 z2 z3 z4
            obtain ⟨c0, c1, c2, c3, c4⟩ := hHa.1.cells
            have z0 := hHa.1.frozen 0
            have z1 := hHa.1.frozen 1
            have z2 := hHa.1.frozen 2
            have z3 := hHa.1.frozen 3
            have z4 := hHa.1.frozen 4
            have hHb := hHa.put (hHa.1.set3 qa) hne
            clear hHa
            obtain ⟨d0, d1, d2, d3, d4⟩ := hHb.2.2.2.2.2.cells
            have y0 := hHb.2.2.2.2.2.frozen 0
            have y1 := hHb.2.2.2.2.2.frozen 1
            have y2 := hHb.2.2.2.2.2.frozen 2
            have y3 := hHb.2.2.2.2.2.frozen 3
            have y4 := hHb.2.2.2.2.2.frozen 4
            have HF := Lib.hid (hHb.drew (q := p + 20) (by omega) ⟨⟨by (try dsimp only); omega, by (try dsimp only); omega⟩, ⟨by (try dsimp only); omega, by (try dsimp only); omega⟩, ⟨by (try dsimp only); omega, by (try dsimp only); omega⟩, ⟨by (try dsimp only); omega, by (try dsimp only); omega⟩, by first | exact ht | exact Nat.zero_le _⟩)
            go_wp2
            exact bodyPost_ret (by simp [results, Tryd.results71, go_sem, d0, d1, d2, d3, d4]) rfl HF.out
          · have n0 : (q9 == 0) = false := beq_eq_false_iff_ne.2 k0
            have n1 : (q9 == 1) = false := beq_eq_false_iff_ne.2 k1
            have n2 : (q9 == 2) = false := beq_eq_false_iff_ne.2 k2
            have n3 : (q9 == 3) = false := beq_eq_false_iff_ne.2 k3
            clear k0 k1 k2 k3
            obtain ⟨d0, d1, d2, d3, d4⟩ := hH9.2.2.2.2.2.cells
            have y0 := hH9.2.2.2.2.2.frozen 0
            have y1 := hH9.2.2.2.2.2.frozen 1
            have y2 := hH9.2.2.2.2.2.frozen 2
            have y3 := hH9.2.2.2.2.2.frozen 3
            have y4 := hH9.2.2.2.2.2.frozen 4
            have HF := Lib.hid (hH9.drew (q := p + 20) (by omega) ⟨⟨by (try dsimp only); omega, by (try dsimp only); omega⟩, ⟨by (try dsimp only); omega, by (try dsimp only); omega⟩, ⟨by (try dsimp only); omega, by (try dsimp only); omega⟩, ⟨by (try dsimp only); omega, by (try dsimp only); omega⟩, by first | exact ht | exact Nat.zero_le _⟩)
            go_wp2
            exact bodyPost_ret (by simp [results, Tryd.results71, go_sem, d0, d1, d2, d3, d4]) rfl HF.out
  · subst k
    have hS1 := hH8.put (hH8.1.set0 1) hne
    have hS2 := hS1.put (hS1.1.set1 i1) hne
    have hS3 := hS2.put (hS2.1.set2 uu) hne
    have hS4 := hS3.put (hS3.1.set3 aa) hne
    have hS5 := hS4.put (hS4.1.set4 t) hne
    clear hH8 hS1 hS2 hS3 hS4
    go_wp2_with fail
    refine (pick_any _ _ _ _ _ hS5.2.2.1 (by omega) (by omega) (by omega)).mono ?_
    rintro e w9 ⟨q9, q90, q91, rfl, b9, s9, r9⟩
    have hH9 := hS5.more b9 r9
    clear hS5 b9 s9 r9
    obtain ⟨c0, c1, c2, c3, c4⟩ := hH9.1.cells
    have z0 := hH9.1.frozen 0
    have z1 := hH9.1.frozen 1
    have z2 := hH9.1.frozen 2
    have z3 := hH9.1.frozen 3
    have z4 := hH9.1.frozen 4
    by_cases k0 : q9 = 0
    · subst k0
      go_wp2_with fail
      refine (pick_any _ _ _ _ _ hH9.2.2.1 (by omega) (by omega) (by omega)).mono ?_
      rintro e wa ⟨qa, qa0, qa1, rfl, ba, sa, ra⟩
      have hHa := hH9.more ba ra
      clear hH9 ba sa ra c0 c1 c2 c3 c4 z0 z1 z2 z3 z4
      obtain ⟨c0, c1, c2, c3, c4⟩ := hHa.1.cells
      have z0 := hHa.1.frozen 0
      have z1 := hHa.1.frozen 1
      have z2 := hHa.1.frozen 2
      have z3 := hHa.1.frozen 3
      have z4 := hHa.1.frozen 4
      have hHb := hHa.put (hHa.1.set0 qa) hne
      clear hHa
      obtain ⟨d0, d1, d2, d3, d4⟩ := hHb.2.2.2.2.2.cells
      have y0 := hHb.2.2.2.2.2.frozen 0
      have y1 := hHb.2.2.2.2.2.frozen 1
      have y2 := hHb.2.2.2.2.2.frozen 2
      have y3 := hHb.2.2.2.2.2.frozen 3
      have y4 := hHb.2.2.2.2.2.frozen 4
      have HF := Lib.hid (hHb.drew (q := p + 20) (by omega) ⟨⟨by (try dsimp only); omega, by (try dsimp only); omega⟩, ⟨by (try dsimp only); omega, by (try dsimp only); omega⟩, ⟨by (try dsimp only); omega, by (try dsimp only); omega⟩, ⟨by (try dsimp only); omega, by (try dsimp only); omega⟩, by first | exact ht | exact Nat.zero_le _⟩)
      go_wp2
      exact bodyPost_ret (by simp [results, Tryd.results71, go_sem, d0, d1, d2, d3, d4]) rfl HF.out
    · by_cases k1 : q9 = 1
      · subst k1
        go_wp2_with fail
        refine (pick_any _ _ _ _ _ hH9.2.2.1 (by omega) (by omega) (by omega)).mono ?_
        rintro e wa ⟨qa, qa0, qa1, rfl, ba, sa, ra⟩
        have hHa := hH9.more ba ra
        clear hH9 ba sa ra c0 c1 c2 c3 c4 z0 z1 z2 z3 z4
        obtain ⟨c0, c1, c2, c3, c4⟩ := hHa.1.cells
        have z0 := hHa.1.frozen 0
        have z1 := hHa.1.frozen 1
        have z2 := hHa.1.frozen 2
        have z3 := hHa.1.frozen 3
        have z4 := hHa.1.frozen 4
        have hHb := hHa.put (hHa.1.set1 qa) hne
        clear hHa
        obtain ⟨d0, d1, d2, d3, d4⟩ := hHb.2.2.2.2.2.cells
        have y0 := hHb.2.2.2.2.2.frozen 0
        have y1 := hHb.2.2.2.2.2.frozen 1
        have y2 := hHb.2.2.2.2.2.frozen 2
        have y3 := hHb.2.2.2.2.2.frozen 3
        have y4 := hHb.2.2.2.2.2.frozen 4
        have HF := Lib.hid (hHb.drew (q := p + 20) (by omega) ⟨⟨by (try dsimp only); omega, by (try dsimp only); omega⟩, ⟨by (try dsimp only); omega, by (try dsimp only); omega⟩, ⟨by (try dsimp only); omega, by (try dsimp only); omega⟩, ⟨by (try dsimp only); omega, by (try dsimp only); omega⟩, by first | exact ht | exact Nat.zero_le _⟩)
        go_wp2
        exact bodyPost_ret (by simp [results, Tryd.results71, go_sem, d0, d1, d2, d3, d4]) rfl HF.out
      · by_cases k2 : q9 = 2
        · subst k2
          go_wp2_with fail
          refine (pick_any _ _ _ _ _ hH9.2.2.1 (by omega) (by omega) (by omega)).mono ?_
          rintro e wa ⟨qa, qa0, qa1, rfl, ba, sa, ra⟩
          have hHa := hH9.more ba ra
          clear hH9 ba sa ra c0 c1 c2 c3 c4 z0 z1 z2 z3 z4
          obtain ⟨c0, c1, c2, c3, c4⟩ := hHa.1.cells
          have z0 := hHa.1.frozen 0
          have z1 := hHa.1.frozen 1
          have z2 := hHa.1.frozen 2
          have z3 := hHa.1.frozen 3
          have z4 := hHa.1.frozen 4
          have hHb := hHa.put (hHa.1.set2 qa) hne
          clear hHa
          obtain ⟨d0, d1, d2, d3, d4⟩ := hHb.2.2.2.2.2.cells
          have y0 := hHb.2.2.2.2.2.frozen 0
          have y1 := hHb.2.2.2.2.2.frozen 1
          have y2 := hHb.2.2.2.2.2.frozen 2
          have y3 := hHb.2.2.2.2.2.frozen 3
          have y4 := hHb.2.2.2.2.2.frozen 4
          have HF := Lib.hid (hHb.drew (q := p + 20) (by omega) ⟨⟨by (try dsimp only); omega, by (try dsimp only); omega⟩, ⟨by (try dsimp only); omega, by (try dsimp only); omega⟩, ⟨by (try dsimp only); omega, by (try dsimp only); omega⟩, ⟨by (try dsimp only); omega, by (try dsimp only); omega⟩, by first | exact ht | exact Nat.zero_le _⟩)
          go_wp2
          exact bodyPost_ret (by simp [results, Tryd.results71, go_sem, d0, d1, d2, d3, d4]) rfl HF.out
        · by_cases k3 : q9 = 3
          · subst k3
            go_wp2_with fail
            refine (pick_any _ _ _ _ _ hH9.2.2.1 (by omega) (by omega) (by omega)).mono ?_
            rintro e wa ⟨qa, qa0, qa1, rfl, ba, sa, ra⟩
            have hHa := hH9.more ba ra
            clear hH9 ba sa ra c0 c1 c2 c3 c4 z0 z1 z2 z3 z4
            obtain ⟨c0, c1, c2, c3, c4⟩ := hHa.1.cells
            have z0 := hHa.1.frozen 0
            have z1 := hHa.1.frozen 1
            have z2 := hHa.1.frozen 2
            have z3 := hHa.1.frozen 3
            have z4 := hHa.1.frozen 4
            have hHb := hHa.put (hHa.1.set3 qa) hne
            clear hHa
            obtain ⟨d0, d1, d2, d3, d4⟩ := hHb.2.2.2.2.2.cells
            have y0 := hHb.2.2.2.2.2.frozen 0
            have y1 := hHb.2.2.2.2.2.frozen 1
            have y2 := hHb.2.2.2.2.2.frozen 2
            have y3 := hHb.2.2.2.2.2.frozen 3
            have y4 := hHb.2.2.2.2.2.frozen 4
            have HF := Lib.hid (hHb.drew (q := p + 20) (by omega) ⟨⟨by (try dsimp only); omega, by (try dsimp only); omega⟩, ⟨by (try dsimp only); omega, by (try dsimp only); omega⟩, ⟨by (try dsimp only); omega, by (try dsimp only); omega⟩, ⟨by (try dsimp only); omega, by (try dsimp only); omega⟩, by first | exact ht | exact Nat.zero_le _⟩)
            go_wp2
            exact bodyPost_ret (by simp [results, Tryd.results71, go_sem, d0, d1, d2, d3, d4]) rfl HF.out
          · have n0 : (q9 == 0) = false := beq_eq_false_iff_ne.2 k0
            have n1 : (q9 == 1) = false := beq_eq_false_iff_ne.2 k1
            have n2 : (q9 == 2) = false := beq_eq_false_iff_ne.2 k2
            have n3 : (q9 == 3) = false := beq_eq_false_iff_ne.2 k3
            clear k0 k1 k2 k3
            obtain ⟨d0, d1, d2, d3, d4⟩ := hH9.2.2.2.2.2.cells
            have y0 := hH9.2.2.2.2.2.frozen 0
            have y1 := hH9.2.2.2.2.2.frozen 1
            have y2 := hH9.2.2.2.2.2.frozen 2
            have y3 := hH9.2.2.2.2.2.frozen 3
            have y4 := hH9.2.2.2.2.2.frozen 4
            have HF := Lib.hid (hH9.drew (q := p + 20) (by omega) ⟨⟨by (try dsimp only); omega, by (try dsimp only); omega⟩, ⟨by (try dsimp only); omega, by (try dsimp only); omega⟩, ⟨by (try dsimp only); omega, by (try dsimp only); omega⟩, ⟨by (try dsimp only); omega, by (try dsimp only); omega⟩, by first | exact ht | exact Nat.zero_le _⟩)
            go_wp2
            exact bodyPost_ret (by simp [results, Tryd.results71, go_sem, d0, d1, d2, d3, d4]) rfl HF.out
  · subst k
    have hS1 := hH8.put (hH8.1.set0 3) hne
    have hS2 := hS1.put (hS1.1.set1 i1) hne
    have hS3 := hS2.put (hS2.1.set2 uu) hne
    have hS4 := hS3.put (hS3.1.set3 aa) hne
    have hS5 := hS4.put (hS4.1.set4 ⟨#[]⟩) hne
    clear hH8 hS1 hS2 hS3 hS4
    go_wp2_with fail
    refine (pick_any _ _ _ _ _ hS5.2.2.1 (by omega) (by omega) (by omega)).mono ?_
    rintro e w9 ⟨q9, q90, q91, rfl, b9, s9, r9⟩
    have hH9 := hS5.more b9 r9
    clear hS5 b9 s9 r9
    obtain ⟨c0, c1, c2, c3, c4⟩ := hH9.1.cells
    have z0 := hH9.1.frozen 0
    have z1 := hH9.1.frozen 1
    have z2 := hH9.1.frozen 2
    have z3 := hH9.1.frozen 3
    have z4 := hH9.1.frozen 4
    by_cases k0 : q9 = 0
    · subst k0
      go_wp2_with fail
      refine (pick_any _ _ _ _ _ hH9.2.2.1 (by omega) (by omega) (by omega)).mono ?_
      rintro e wa ⟨qa, qa0, qa1, rfl, ba, sa, ra⟩
      have hHa := hH9.more ba ra
      clear hH9 ba sa ra c0 c1 c2 c3 c4 z0 z1 z2 z3 z4
      obtain ⟨c0, c1, c2, c3, c4⟩ := hHa.1.cells
      have z0 := hHa.1.frozen 0
      have z1 := hHa.1.frozen 1
      have z2 := hHa.1.frozen 2
      have z3 := hHa.1.frozen 3
      have z4 := hHa.1.frozen 4
      have hHb := hHa.put (hHa.1.set0 qa) hne
      clear hHa
      obtain ⟨d0, d1, d2, d3, d4⟩ := hHb.2.2.2.2.2.cells
      have y0 := hHb.2.2.2.2.2.frozen 0
      have y1 := hHb.2.2.2.2.2.frozen 1
      have y2 := hHb.2.2.2.2.2.frozen 2
      have y3 := hHb.2.2.2.2.2.frozen 3
      have y4 := hHb.2.2.2.2.2.frozen 4
      have HF := Lib.hid (hHb.drew (q := p + 20) (by omega) ⟨⟨by (try dsimp only); omega, by (try dsimp only); omega⟩, ⟨by (try dsimp only); omega, by (try dsimp only); omega⟩, ⟨by (try dsimp only); omega, by (try dsimp only); omega⟩, ⟨by (try dsimp only); omega, by (try dsimp only); omega⟩, by first | exact ht | exact Nat.zero_le _⟩)
      go_wp2
      exact bodyPost_ret (by simp [results, Tryd.results71, go_sem, d0, d1, d2, d3, d4]) rfl HF.out
    · by_cases k1 : q9 = 1
      · subst k1
        go_wp2_with fail
        refine (pick_any _ _ _ _ _ hH9.2.2.1 (by omega) (by omega) (by omega)).mono ?_
        rintro e wa ⟨qa, qa0, qa1, rfl, ba, sa, ra⟩
        have hHa := hH9.more ba ra
        clear hH9 ba sa ra c0 c1 c2 c3 c4 z0 z1 z2 z3 z4
        obtain ⟨c0, c1, c2, c3, c4⟩ := hHa.1.cells
        have z0 := hHa.1.frozen 0
        have z1 := hHa.1.frozen 1
        have z2 := hHa.1.frozen 2
        have z3 := hHa.1.frozen 3
        have z4 := hHa.1.frozen 4
        have hHb := hHa.put (hHa.1.set1 qa) hne
        clear hHa
        obtain ⟨d0, d1, d2, d3, d4⟩ := hHb.2.2.2.2.2.cells
        have y0 := hHb.2.2.2.2.2.frozen 0
        have y1 := hHb.2.2.2.2.2.frozen 1
        have y2 := hHb.2.2.2.2.2.frozen 2
        have y3 := hHb.2.2.2.2.2.frozen 3
        have y4 := hHb.2.2.2.2.2.frozen 4
        have HF := Lib.hid (hHb.drew (q := p + 20) (by omega) ⟨⟨by (try dsimp only); omega, by (try dsimp only); omega⟩, ⟨by (try dsimp only); omega, by (try dsimp only); omega⟩, ⟨by (try dsimp only); omega, by (try dsimp only); omega⟩, ⟨by (try dsimp only); omega, by (try dsimp only); omega⟩, by first | exact ht | exact Nat.zero_le _⟩)
        go_wp2
        exact bodyPost_ret (by simp [results, Tryd.results71, go_sem, d0, d1, d2, d3, d4]) rfl HF.out
      · by_cases k2 : q9 = 2
        · subst k2
          go_wp2_with fail
          refine (pick_any _ _ _ _ _ hH9.2.2.1 (by omega) (by omega) (by omega)).mono ?_
          rintro e wa ⟨qa, qa0, qa1, rfl, ba, sa, ra⟩
          have hHa := hH9.more ba ra
          clear hH9 ba sa ra c0 c1 c2 c3 c4 z0 z1 z2 z3 z4
          obtain ⟨c0, c1, c2, c3, c4⟩ := hHa.1.cells
          have z0 := hHa.1.frozen 0
          have z1 := hHa.1.frozen 1
          have z2 := hHa.1.frozen 2
          have z3 := hHa.1.frozen 3
          have z4 := hHa.1.frozen 4
          have hHb := hHa.put (hHa.1.set2 qa) hne
          clear hHa
          obtain ⟨d0, d1, d2, d3, d4⟩ := hHb.2.2.2.2.2.cells
          have y0 := hHb.2.2.2.2.2.frozen 0
          have y1 := hHb.2.2.2.2.2.frozen 1
          have y2 := hHb.2.2.2.2.2.frozen 2
          have y3 := hHb.2.2.2.2.2.frozen 3
          have y4 := hHb.2.2.2.2.2.frozen 4
          have HF := Lib.hid (hHb.drew (q := p + 20) (by omega) ⟨⟨by (try dsimp only); omega, by (try dsimp only); omega⟩, ⟨by (try dsimp only); omega, by (try dsimp only); omega⟩, ⟨by (try dsimp only); omega, by (try dsimp only); omega⟩, ⟨by (try dsimp only); omega, by (try dsimp only); omega⟩, by first | exact ht | exact Nat.zero_le _⟩)
          go_wp2
          exact bodyPost_ret (by simp [results, Tryd.results71, go_sem, d0, d1, d2, d3, d4]) rfl HF.out
        · by_cases k3 : q9 = 3
          · subst k3
            go_wp2_with fail
            refine (pick_any _ _ _ _ _ hH9.2.2.1 (by omega) (by omega) (by omega)).mono ?_
            rintro e wa ⟨qa, qa0, qa1, rfl, ba, sa, ra⟩
            have hHa := hH9.more ba ra
            clear hH9 ba sa ra c0 c1 c2 c3 c4 z0 z1 z2 z3 z4
            obtain ⟨c0, c1, c2, c3, c4⟩ := hHa.1.cells
            have z0 := hHa.1.frozen 0
            have z1 := hHa.1.frozen 1
            have z2 := hHa.1.frozen 2
            have z3 := hHa.1.frozen 3
            have z4 := hHa.1.frozen 4
            have hHb := hHa.put (hHa.1.set3 qa) hne
            clear hHa
            obtain ⟨d0, d1, d2, d3, d4⟩ := hHb.2.2.2.2.2.cells
            have y0 := hHb.2.2.2.2.2.frozen 0
            have y1 := hHb.2.2.2.2.2.frozen 1
            have y2 := hHb.2.2.2.2.2.frozen 2
            have y3 := hHb.2.2.2.2.2.frozen 3
            have y4 := hHb.2.2.2.2.2.frozen 4
            have HF := Lib.hid (hHb.drew (q := p + 20) (by omega) ⟨⟨by (try dsimp only); omega, by (try dsimp only); omega⟩, ⟨by (try dsimp only); omega, by (try dsimp only); omega⟩, ⟨by (try dsimp only); omega, by (try dsimp only); omega⟩, ⟨by (try dsimp only); omega, by (try dsimp only); omega⟩, by first | exact ht | exact Nat.zero_le _⟩)
            go_wp2
            exact bodyPost_ret (by simp [results, Tryd.results71, go_sem, d0, d1, d2, d3, d4]) rfl HF.out
          · have n0 : (q9 == 0) = false := beq_eq_false_iff_ne.2 k0
            have n1 : (q9 == 1) = false := beq_eq_false_iff_ne.2 k1
            have n2 : (q9 == 2) = false := beq_eq_false_iff_ne.2 k2
            have n3 : (q9 == 3) = false := beq_eq_false_iff_ne.2 k3
            clear k0 k1 k2 k3
            obtain ⟨d0, d1, d2, d3, d4⟩ := hH9.2.2.2.2.2.cells
            have y0 := hH9.2.2.2.2.2.frozen 0
            have y1 := hH9.2.2.2.2.2.frozen 1
            have y2 := hH9.2.2.2.2.2.frozen 2
            have y3 := hH9.2.2.2.2.2.frozen 3
            have y4 := hH9.2.2.2.2.2.frozen 4
            have HF := Lib.hid (hH9.drew (q := p + 20) (by omega) ⟨⟨by (try dsimp only); omega, by (try dsimp only); omega⟩, ⟨by (try dsimp only); omega, by (try dsimp only); omega⟩, ⟨by (try dsimp only); omega, by (try dsimp only); omega⟩, ⟨by (try dsimp only); omega, by (try dsimp only); omega⟩, by first | exact ht | exact Nat.zero_le _⟩)
            go_wp2
            exact bodyPost_ret (by simp [results, Tryd.results71, go_sem, d0, d1, d2, d3, d4]) rfl HF.out
  · subst k
    have hS1 := hH8.put (hH8.1.set0 3) hne
    have hS2 := hS1.put (hS1.1.set1 i1) hne
    have hS3 := hS2.put (hS2.1.set2 uu) hne
    have hS4 := hS3.put (hS3.1.set3 aa) hne
    have hS5 := hS4.put (hS4.1.set4 ⟨#[]⟩) hne
    clear hH8 hS1 hS2 hS3 hS4
    go_wp2_with fail
    refine (pick_any _ _ _ _ _ hS5.2.2.1 (by omega) (by omega) (by omega)).mono ?_
    rintro e w9 ⟨q9, q90, q91, rfl, b9, s9, r9⟩
    have hH9 := hS5.more b9 r9
    clear hS5 b9 s9 r9
    obtain ⟨c0, c1, c2, c3, c4⟩ := hH9.1.cells
    have z0 := hH9.1.frozen 0
    have z1 := hH9.1.frozen 1
    have z2 := hH9.1.frozen 2
    have z3 := hH9.1.frozen 3
    have z4 := hH9.1.frozen 4
    by_cases k0 : q9 = 0
    · subst k0
      go_wp2_with fail
      refine (pick_any _ _ _ _ _ hH9.2.2.1 (by omega) (by omega) (by omega)).mono ?_
      rintro e wa ⟨qa, qa0, qa1, rfl, ba, sa, ra⟩
      have hHa := hH9.more ba ra
      clear hH9 ba sa ra c0 c1 c2 c3 c4 z0 z1 z2 z3 z4
      obtain ⟨c0, c1, c2, c3, c4⟩ := hHa.1.cells
      have z0 := hHa.1.frozen 0
      have z1 := hHa.1.frozen 1
      have z2 := hHa.1.frozen 2
      have z3 := hHa.1.frozen 3
      have z4 := hHa.1.frozen 4
      have hHb := hHa.put (hHa.1.set0 qa) hne
      clear hHa
      obtain ⟨d0, d1, d2, d3, d4⟩ := hHb.2.2.2.2.2.cells
      have y0 := hHb.2.2.2.2.2.frozen 0
      have y1 := hHb.2.2.2.2.2.frozen 1
      have y2 := hHb.2.2.2.2.2.frozen 2
      have y3 := hHb.2.2.2.2.2.frozen 3
      have y4 := hHb.2.2.2.2.2.frozen 4
      have HF := Lib.hid (hHb.drew (q := p + 20) (by omega) ⟨⟨by (try dsimp only); omega, by (try dsimp only); omega⟩, ⟨by (try dsimp only); omega, by (try dsimp only); omega⟩, ⟨by (try dsimp only); omega, by (try dsimp only); omega⟩, ⟨by (try dsimp only); omega, by (try dsimp only); omega⟩, by first | exact ht | exact Nat.zero_le _⟩)
      go_wp2
      exact bodyPost_ret (by simp [results, Tryd.results71, go_sem, d0, d1, d2, d3, d4]) rfl HF.out
    · by_cases k1 : q9 = 1
      · subst k1
        go_wp2_with fail
        refine (pick_any _ _ _ _ _ hH9.2.2.1 (by omega) (by omega) (by omega)).mono ?_
        rintro e wa ⟨qa, qa0, qa1, rfl, ba, sa, ra⟩
        have hHa := hH9.more ba ra
        clear hH9 ba sa ra c0 c1 c2 c3 c4 z0 z1 z2 z3 z4
        obtain ⟨c0, c1, c2, c3, c4⟩ := hHa.1.cells
        have z0 := hHa.1.frozen 0
        have z1 := hHa.1.frozen 1
        have z2 := hHa.1.frozen 2
        have z3 := hHa.1.frozen 3
        have z4 := hHa.1.frozen 4
        have hHb := hHa.put (hHa.1.set1 qa) hne
        clear hHa
        obtain ⟨d0, d1, d2, d3, d4⟩ := hHb.2.2.2.2.2.cells
        have y0 := hHb.2.2.2.2.2.frozen 0
        have y1 := hHb.2.2.2.2.2.frozen 1
        have y2 := hHb.2.2.2.2.2.frozen 2
        have y3 := hHb.2.2.2.2.2.frozen 3
        have y4 := hHb.2.2.2.2.2.frozen 4
        have HF := Lib.hid (hHb.drew (q := p + 20) (by omega) ⟨⟨by (try dsimp only); omega, by (try dsimp only); omega⟩, ⟨by (try dsimp only); omega, by (try dsimp only); omega⟩, ⟨by (try dsimp only); omega, by (try dsimp only); omega⟩, ⟨by (try dsimp only); omega, by (try dsimp only); omega⟩, by first | exact ht | exact Nat.zero_le _⟩)
        go_wp2
        exact bodyPost_ret (by simp [results, Tryd.results71, go_sem, d0, d1, d2, d3, d4]) rfl HF.out
      · by_cases k2 : q9 = 2
        · subst k2
          go_wp2_with fail
          refine (pick_any _ _ _ _ _ hH9.2.2.1 (by omega) (by omega) (by omega)).mono ?_
          rintro e wa ⟨qa, qa0, qa1, rfl, ba, sa, ra⟩
          have hHa := hH9.more ba ra
          clear hH9 ba sa ra c0 c1 c2 c3 c4 z0 z1 z2 z3 z4
          obtain ⟨c0, c1, c2, c3, c4⟩ := hHa.1.cells
          have z0 := hHa.1.frozen 0
          have z1 := hHa.1.frozen 1
          have z2 := hHa.1.frozen 2
          have z3 := hHa.1.frozen 3
          have z4 := hHa.1.frozen 4
          have hHb := hHa.put (hHa.1.set2 qa) hne
          clear hHa
          obtain ⟨d0, d1, d2, d3, d4⟩ := hHb.2.2.2.2.2.cells
          have y0 := hHb.2.2.2.2.2.frozen 0
          have y1 := hHb.2.2.2.2.2.frozen 1
          have y2 := hHb.2.2.2.2.2.frozen 2
          have y3 := hHb.2.2.2.2.2.frozen 3
          have y4 := hHb.2.2.2.2.2.frozen 4
          have HF := Lib.hid (hHb.drew (q := p + 20) (by omega) ⟨⟨by (try dsimp only); omega, by (try dsimp only); omega⟩, ⟨by (try dsimp only); omega, by (try dsimp only); omega⟩, ⟨by (try dsimp only); omega, by (try dsimp only); omega⟩, ⟨by (try dsimp only); omega, by (try dsimp only); omega⟩, by first | exact ht | exact Nat.zero_le _⟩)
          go_wp2
          exact bodyPost_ret (by simp [results, Tryd.results71, go_sem, d0, d1, d2, d3, d4]) rfl HF.out
        · by_cases k3 : q9 = 3
          · subst k3
            go_wp2_with fail
            refine (pick_any _ _ _ _ _ hH9.2.2.1 (by omega) (by omega) (by omega)).mono ?_
            rintro e wa ⟨qa, qa0, qa1, rfl, ba, sa, ra⟩
            have hHa := hH9.more ba ra
            clear hH9 ba sa ra c0 c1 c2 c3 c4 z0 z1 z2 z3 z4
            obtain ⟨c0, c1, c2, c3, c4⟩ := hHa.1.cells
            have z0 := hHa.1.frozen 0
            have z1 := hHa.1.frozen 1
            have z2 := hHa.1.frozen 2
            have z3 := hHa.1.frozen 3
            have z4 := hHa.1.frozen 4
            have hHb := hHa.put (hHa.1.set3 qa) hne
            clear hHa
            obtain ⟨d0, d1, d2, d3, d4⟩ := hHb.2.2.2.2.2.cells
            have y0 := hHb.2.2.2.2.2.frozen 0
            have y1 := hHb.2.2.2.2.2.frozen 1
            have y2 := hHb.2.2.2.2.2.frozen 2
            have y3 := hHb.2.2.2.2.2.frozen 3
            have y4 := hHb.2.2.2.2.2.frozen 4
            have HF := Lib.hid (hHb.drew (q := p + 20) (by omega) ⟨⟨by (try dsimp only); omega, by (try dsimp only); omega⟩, ⟨by (try dsimp only); omega, by (try dsimp only); omega⟩, ⟨by (try dsimp only); omega, by (try dsimp only); omega⟩, ⟨by (try dsimp only); omega, by (try dsimp only); omega⟩, by first | exact ht | exact Nat.zero_le _⟩)
            go_wp2
            exact bodyPost_ret (by simp [results, Tryd.results71, go_sem, d0, d1, d2, d3, d4]) rfl HF.out
          · have n0 : (q9 == 0) = false := beq_eq_false_iff_ne.2 k0
            have n1 : (q9 == 1) = false := beq_eq_false_iff_ne.2 k1
            have n2 : (q9 == 2) = false := beq_eq_false_iff_ne.2 k2
            have n3 : (q9 == 3) = false := beq_eq_false_iff_ne.2 k3
            clear k0 k1 k2 k3
            obtain ⟨d0, d1, d2, d3, d4⟩ := hH9.2.2.2.2.2.cells
            have y0 := hH9.2.2.2.2.2.frozen 0
            have y1 := hH9.2.2.2.2.2.frozen 1
            have y2 := hH9.2.2.2.2.2.frozen 2
            have y3 := hH9.2.2.2.2.2.frozen 3
            have y4 := hH9.2.2.2.2.2.frozen 4
            have HF := Lib.hid (hH9.drew (q := p + 20) (by omega) ⟨⟨by (try dsimp only); omega, by (try dsimp only); omega⟩, ⟨by (try dsimp only); omega, by (try dsimp only); omega⟩, ⟨by (try dsimp only); omega, by (try dsimp only); omega⟩, ⟨by (try dsimp only); omega, by (try dsimp only); omega⟩, by first | exact ht | exact Nat.zero_le _⟩)
            go_wp2
            exact bodyPost_ret (by simp [results, Tryd.results71, go_sem, d0, d1, d2, d3, d4]) rfl HF.out
  · subst k
    go_wp2_with fail
    refine (pick_any _ _ _ _ _ hH8.2.2.1 (by omega) (by omega) (by omega)).mono ?_
    rintro e w9 ⟨q9, q90, q91, rfl, b9, s9, r9⟩
    have hH9 := hH8.more b9 r9
    clear hH8 b9 s9 r9
    clear c0 c1 c2 c3 c4 z0 z1 z2 z3 z4
    obtain ⟨c0, c1, c2, c3, c4⟩ := hH9.1.cells
    have z0 := hH9.1.frozen 0
    have z1 := hH9.1.frozen 1
    have z2 := hH9.1.frozen 2
    have z3 := hH9.1.frozen 3
    have z4 := hH9.1.frozen 4
    by_cases k0 : q9 = 0
    · subst k0
      go_wp2_with fail
      refine (pick_any _ _ _ _ _ hH9.2.2.1 (by omega) (by omega) (by omega)).mono ?_
      rintro e wa ⟨qa, qa0, qa1, rfl, ba, sa, ra⟩
      have hHa := hH9.more ba ra
      clear hH9 ba sa ra c0 c1 c2 c3 c4 z0 z1 z2 z3 z4
      obtain ⟨c0, c1, c2, c3, c4⟩ := hHa.1.cells
      have z0 := hHa.1.frozen 0
      have z1 := hHa.1.frozen 1
      have z2 := hHa.1.frozen 2
      have z3 := hHa.1.frozen 3
      have z4 := hHa.1.frozen 4
      have hHb := hHa.put (hHa.1.set0 qa) hne
      clear hHa
      obtain ⟨d0, d1, d2, d3, d4⟩ := hHb.2.2.2.2.2.cells
      have y0 := hHb.2.2.2.2.2.frozen 0
      have y1 := hHb.2.2.2.2.2.frozen 1
      have y2 := hHb.2.2.2.2.2.frozen 2
      have y3 := hHb.2.2.2.2.2.frozen 3
      have y4 := hHb.2.2.2.2.2.frozen 4
      have HF := Lib.hid (hHb.drew (q := p + 20) (by omega) ⟨⟨by (try dsimp only); omega, by (try dsimp only); omega⟩, ⟨by (try dsimp only); omega, by (try dsimp only); omega⟩, ⟨by (try dsimp only); omega, by (try dsimp only); omega⟩, ⟨by (try dsimp only); omega, by (try dsimp only); omega⟩, by first | exact ht | exact Nat.zero_le _⟩)
      go_wp2
      exact bodyPost_ret (by simp [results, Tryd.results71, go_sem, d0, d1, d2, d3, d4]) rfl HF.out
    · by_cases k1 : q9 = 1
      · subst k1
        go_wp2_with fail
        refine (pick_any _ _ _ _ _ hH9.2.2.1 (by omega) (by omega) (by omega)).mono ?_
        rintro e wa ⟨qa, qa0, qa1, rfl, ba, sa, ra⟩
        have hHa := hH9.more ba ra
        clear hH9 ba sa ra c0 c1 c2 c3 c4 z0 z1 z2 z3 z4
        obtain ⟨c0, c1, c2, c3, c4⟩ := hHa.1.cells
        have z0 := hHa.1.frozen 0
        have z1 := hHa.1.frozen 1
        have z2 := hHa.1.frozen 2
        have z3 := hHa.1.frozen 3
        have z4 := hHa.1.frozen 4
        have hHb := hHa.put (hHa.1.set1 qa) hne
        clear hHa
        obtain ⟨d0, d1, d2, d3, d4⟩ := hHb.2.2.2.2.2.cells
        have y0 := hHb.2.2.2.2.2.frozen 0
        have y1 := hHb.2.2.2.2.2.frozen 1
        have y2 := hHb.2.2.2.2.2.frozen 2
        have y3 := hHb.2.2.2.2.2.frozen 3
        have y4 := hHb.2.2.2.2.2.frozen 4
        have HF := Lib.hid (hHb.drew (q := p + 20) (by omega) ⟨⟨by (try dsimp only); omega, by (try dsimp only); omega⟩, ⟨by (try dsimp only); omega, by (try dsimp only); omega⟩, ⟨by (try dsimp only); omega, by (try dsimp only); omega⟩, ⟨by (try dsimp only); omega, by (try dsimp only); omega⟩, by first | exact ht | exact Nat.zero_le _⟩)
        go_wp2
        exact bodyPost_ret (by simp [results, Tryd.results71, go_sem, d0, d1, d2, d3, d4]) rfl HF.out
      · by_cases k2 : q9 = 2
        · subst k2
          go_wp2_with fail
          refine (pick_any _ _ _ _ _ hH9.2.2.1 (by omega) (by omega) (by omega)).mono ?_
          rintro e wa ⟨qa, qa0, qa1, rfl, ba, sa, ra⟩
          have hHa := hH9.more ba ra
          clear hH9 ba sa ra c0 c1 c2 c3 c4 z0 z1 z2 z3 z4
          obtain ⟨c0, c1, c2, c3, c4⟩ := hHa.1.cells
          have z0 := hHa.1.frozen 0
          have z1 := hHa.1.frozen 1
          have z2 := hHa.1.frozen 2
          have z3 := hHa.1.frozen 3
          have z4 := hHa.1.frozen 4
          have hHb := hHa.put (hHa.1.set2 qa) hne
          clear hHa
          obtain ⟨d0, d1, d2, d3, d4⟩ := hHb.2.2.2.2.2.cells
          have y0 := hHb.2.2.2.2.2.frozen 0
          have y1 := hHb.2.2.2.2.2.frozen 1
          have y2 := hHb.2.2.2.2.2.frozen 2
          have y3 := hHb.2.2.2.2.2.frozen 3
          have y4 := hHb.2.2.2.2.2.frozen 4
          have HF := Lib.hid (hHb.drew (q := p + 20) (by omega) ⟨⟨by (try dsimp only); omega, by (try dsimp only); omega⟩, ⟨by (try dsimp only); omega, by (try dsimp only); omega⟩, ⟨by (try dsimp only); omega, by (try dsimp only); omega⟩, ⟨by (try dsimp only); omega, by (try dsimp only); omega⟩, by first | exact ht | exact Nat.zero_le _⟩)
          go_wp2
          exact bodyPost_ret (by simp [results, Tryd.results71, go_sem, d0, d1, d2, d3, d4]) rfl HF.out
        · by_cases k3 : q9 = 3
          · subst k3
            go_wp2_with fail
            refine (pick_any _ _ _ _ _ hH9.2.2.1 (by omega) (by omega) (by omega)).mono ?_
            rintro e wa ⟨qa, qa0, qa1, rfl, ba, sa, ra⟩
            have hHa := hH9.more ba ra
            clear hH9 ba sa ra c0 c1 c2 c3 c4 z0 z1 z2 z3 z4
            obtain ⟨c0, c1, c2, c3, c4⟩ := hHa.1.cells
            have z0 := hHa.1.frozen 0
            have z1 := hHa.1.frozen 1
            have z2 := hHa.1.frozen 2
            have z3 := hHa.1.frozen 3
            have z4 := hHa.1.frozen 4
            have hHb := hHa.put (hHa.1.set3 qa) hne
            clear hHa
            obtain ⟨d0, d1, d2, d3, d4⟩ := hHb.2.2.2.2.2.cells
            have y0 := hHb.2.2.2.2.2.frozen 0
            have y1 := hHb.2.2.2.2.2.frozen 1
            have y2 := hHb.2.2.2.2.2.frozen 2
            have y3 := hHb.2.2.2.2.2.frozen 3
            have y4 := hHb.2.2.2.2.2.frozen 4
            have HF := Lib.hid (hHb.drew (q := p + 20) (by omega) ⟨⟨by (try dsimp only); omega, by (try dsimp only); omega⟩, ⟨by (try dsimp only); omega, by (try dsimp only); omega⟩, ⟨by (try dsimp only); omega, by (try dsimp only); omega⟩, ⟨by (try dsimp only); omega, by (try dsimp only); omega⟩, by first | exact ht | exact Nat.zero_le _⟩)
            go_wp2
            exact bodyPost_ret (by simp [results, Tryd.results71, go_sem, d0, d1, d2, d3, d4]) rfl HF.out
          · have n0 : (q9 == 0) = false := beq_eq_false_iff_ne.2 k0
            have n1 : (q9 == 1) = false := beq_eq_false_iff_ne.2 k1
            have n2 : (q9 == 2) = false := beq_eq_false_iff_ne.2 k2
            have n3 : (q9 == 3) = false := beq_eq_false_iff_ne.2 k3
            clear k0 k1 k2 k3
            obtain ⟨d0, d1, d2, d3, d4⟩ := hH9.2.2.2.2.2.cells
            have y0 := hH9.2.2.2.2.2.frozen 0
            have y1 := hH9.2.2.2.2.2.frozen 1
            have y2 := hH9.2.2.2.2.2.frozen 2
            have y3 := hH9.2.2.2.2.2.frozen 3
            have y4 := hH9.2.2.2.2.2.frozen 4
            have HF := Lib.hid (hH9.drew (q := p + 20) (by omega) ⟨⟨by (try dsimp only); omega, by (try dsimp only); omega⟩, ⟨by (try dsimp only); omega, by (try dsimp only); omega⟩, ⟨by (try dsimp only); omega, by (try dsimp only); omega⟩, ⟨by (try dsimp only); omega, by (try dsimp only); omega⟩, by first | exact ht | exact Nat.zero_le _⟩)
            go_wp2
            exact bodyPost_ret (by simp [results, Tryd.results71, go_sem, d0, d1, d2, d3, d4]) rfl HF.out
end Go.Proofs.YtclhjgcapalniaaDoor
