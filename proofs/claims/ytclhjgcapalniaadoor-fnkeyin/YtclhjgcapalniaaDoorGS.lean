/-
  Joined texts, each with its own head: what it holds, and its conditions.
-/
import Derived.Test.YtclhjgcapalniaaDoorGP
import Derived.Test.YtclhjgcapalniaaDoorGA
import Derived.Lib.Hide
import Derived.Deep.OwnRows
import Derived.Deep.Cut
import Derived.Test.YtclhjgcapalniaaDoorGM

/-
  Plain mathematics of servers: what is a valid server, and what hearing, making durable, a fall and news make of one. Nothing of the program is run here. Conditions: none beyond the lemmas' own premises.
-/
namespace Go.Proofs.YtclhjgcapalniaaDoor
open Go.RowKit

structure SrvD where
  log : List EntD
  safe : Int
  up : Bool
def zsrv : SrvD := ⟨[], 0, false⟩
def srvB (s : SrvD) : Bool := logB s.log && inB s.safe 0 s.log.length
def hearOk (s : SrvD) (e : EntD) : Bool := srvB s && entB e
def hearB (s : SrvD) (e : EntD) : Bool := hearOk s e && (s.up && (addN s.log e == 1))
def hearS (s : SrvD) (e : EntD) : SrvD := if hearOk s e then (if s.up && (addN s.log e == 1) then ⟨s.log ++ [e], s.safe, s.up⟩ else s) else zsrv
def syncB (s : SrvD) : Bool := srvB s && s.up
def syncS (s : SrvD) : SrvD := if srvB s then (if s.up then ⟨s.log, s.log.length, s.up⟩ else s) else zsrv
def fallOk (s : SrvD) (left : Int) : Bool := srvB s && inB left 0 40
def fallE (s : SrvD) (left : Int) : Nat := min s.log.length (s.safe + left).toNat
def fallS (s : SrvD) (left : Int) : SrvD := if fallOk s left then ⟨s.log.take (fallE s left), s.safe, s.up⟩ else zsrv
def newsOk (s : SrvD) (from_ : Int) : Bool := srvB s && s.up && inB from_ 0 s.safe
def newsL (s : SrvD) (from_ : Int) : List EntD := if newsOk s from_ then (s.log.drop from_.toNat).take (s.safe.toNat - from_.toNat) else []

theorem srv_iff {s : SrvD} : srvB s = true ↔ logB s.log = true ∧ 0 ≤ s.safe ∧ s.safe ≤ s.log.length := by
  unfold srvB; rw [Bool.and_eq_true, inB_iff]
theorem hear_no {s : SrvD} {e : EntD} (h : hearOk s e = false) : hearS s e = zsrv ∧ hearB s e = false := by simp [hearS, hearB, h]
theorem hear_yes {s : SrvD} {e : EntD} (h : hearOk s e = true) (hu : s.up = true) (hn : addN s.log e = 1) : hearS s e = ⟨s.log ++ [e], s.safe, s.up⟩ ∧ hearB s e = true := by simp [hearS, hearB, h, hu, hn]
theorem hear_same {s : SrvD} {e : EntD} (h : hearOk s e = true) (hn : (s.up && (addN s.log e == 1)) = false) : hearS s e = s ∧ hearB s e = false := by simp [hearS, hearB, h, hn]
theorem hearOk_add {s : SrvD} {e : EntD} (h : hearOk s e = true) : okAdd s.log e = true := by
  simp only [hearOk, Bool.and_eq_true] at h
  simp [okAdd, (srv_iff.1 h.1).1, h.2]
theorem add_is {es : List EntD} {e : EntD} (h : addN es e = 1) : okAdd es e = true ∧ hasE es e = false ∧ nextB es e = true ∧ addL es e = es ++ [e] := by
  unfold addN at h
  cases h0 : okAdd es e <;> simp [h0] at h
  cases h1 : hasE es e <;> simp [h1] at h
  cases h2 : nextB es e <;> simp [h2] at h
  exact ⟨rfl, rfl, rfl, (add_new h0 h1 h2).1⟩
theorem hear_is {s : SrvD} {e : EntD} (h : hearB s e = true) : srvB s = true ∧ entB e = true ∧ s.up = true ∧ nextB s.log e = true ∧ addN s.log e = 1 ∧ hearS s e = ⟨s.log ++ [e], s.safe, s.up⟩ := by
  simp only [hearB, Bool.and_eq_true, beq_iff_eq] at h
  obtain ⟨h1, h2, h3⟩ := h
  have h4 := h1
  simp only [hearOk, Bool.and_eq_true] at h4
  exact ⟨h4.1, h4.2, h2, (add_is h3).2.2.1, h3, (hear_yes h1 h2 h3).1⟩
theorem srv_snoc {s : SrvD} {e : EntD} (h : srvB s = true) (he : entB e = true) (hn : nextB s.log e = true) : srvB ⟨s.log ++ [e], s.safe, s.up⟩ = true := by
  rw [srv_iff] at h ⊢
  refine ⟨logB_snoc h.1 he hn, h.2.1, ?_⟩
  have := h.2.2
  simp only [List.length_append, List.length_singleton]
  omega
theorem srv_full {l : List EntD} {u : Bool} (h : logB l = true) : srvB ⟨l, l.length, u⟩ = true := by
  rw [srv_iff]; exact ⟨h, by simp, by simp⟩
theorem sync_is {s : SrvD} (h : syncB s = true) : srvB s = true ∧ s.up = true ∧ syncS s = ⟨s.log, s.log.length, true⟩ := by
  simp only [syncB, Bool.and_eq_true] at h
  simp [syncS, h.1, h.2]
theorem sync_no {s : SrvD} (h : srvB s = false) : syncS s = zsrv ∧ syncB s = false := by simp [syncS, syncB, h]
theorem sync_down {s : SrvD} (h : srvB s = true) (hu : s.up = false) : syncS s = s ∧ syncB s = false := by simp [syncS, syncB, h, hu]
theorem sync_up {s : SrvD} (h : srvB s = true) (hu : s.up = true) : syncS s = ⟨s.log, s.log.length, s.up⟩ ∧ syncB s = true := by simp [syncS, syncB, h, hu]
theorem fall_no {s : SrvD} {left : Int} (h : fallOk s left = false) : fallS s left = zsrv := by simp [fallS, h]
theorem fall_yes {s : SrvD} {left : Int} (h : fallOk s left = true) : fallS s left = ⟨s.log.take (fallE s left), s.safe, s.up⟩ := by simp [fallS, h]
theorem fallOk_is {s : SrvD} {left : Int} : fallOk s left = true ↔ srvB s = true ∧ 0 ≤ left ∧ left ≤ 40 := by
  unfold fallOk; rw [Bool.and_eq_true, inB_iff]
theorem fallE_le (s : SrvD) (left : Int) : fallE s left ≤ s.log.length := Nat.min_le_left _ _
theorem fall_len (s : SrvD) (left : Int) : (s.log.take (fallE s left)).length = fallE s left := by
  rw [List.length_take]; exact Nat.min_eq_left (fallE_le s left)
theorem srv_fall {s : SrvD} {left : Int} (h : srvB s = true) (h0 : 0 ≤ left) : srvB ⟨s.log.take (fallE s left), s.safe, s.up⟩ = true := by
  rw [srv_iff] at h ⊢
  refine ⟨logB_take h.1 (fallE_le s left), h.2.1, ?_⟩
  simp only
  rw [fall_len]
  have := h.2.2
  have := h.2.1
  unfold fallE
  omega
theorem fall_again {s : SrvD} {left : Int} (h : fallOk s left = true) : fallS (fallS s left) left = fallS s left := by
  obtain ⟨h1, h2, h3⟩ := fallOk_is.1 h
  rw [fall_yes h]
  have h4 : fallOk ⟨s.log.take (fallE s left), s.safe, s.up⟩ left = true := fallOk_is.2 ⟨srv_fall h1 h2, h2, h3⟩
  rw [fall_yes h4]
  have h5 : fallE ⟨s.log.take (fallE s left), s.safe, s.up⟩ left = fallE s left := by
    unfold fallE
    simp only [List.length_take]
    omega
  rw [h5]
  simp only [List.take_take, Nat.min_self]
theorem fall_full {l : List EntD} {u : Bool} (h : logB l = true) : fallS ⟨l, l.length, u⟩ 0 = ⟨l, l.length, u⟩ := by
  have h1 : fallOk ⟨l, l.length, u⟩ 0 = true := fallOk_is.2 ⟨srv_full h, by omega, by omega⟩
  rw [fall_yes h1]
  have h2 : fallE ⟨l, l.length, u⟩ 0 = l.length := by unfold fallE; simp only; omega
  rw [h2, List.take_length]
theorem newsOk_is {s : SrvD} {f : Int} : newsOk s f = true ↔ srvB s = true ∧ s.up = true ∧ 0 ≤ f ∧ f ≤ s.safe := by
  unfold newsOk; rw [Bool.and_eq_true, Bool.and_eq_true, inB_iff, and_assoc]
theorem news_no {s : SrvD} {f : Int} (h : newsOk s f = false) : newsL s f = [] := by simp [newsL, h]
theorem news_yes {s : SrvD} {f : Int} (h : newsOk s f = true) : newsL s f = (s.log.drop f.toNat).take (s.safe.toNat - f.toNat) := by simp [newsL, h]
theorem news_len {s : SrvD} {f : Int} (h : newsOk s f = true) : (newsL s f).length = s.safe.toNat - f.toNat := by
  rw [news_yes h, List.length_take, List.length_drop]
  have h1 := newsOk_is.1 h
  have h2 := srv_iff.1 h1.1
  omega
theorem news_le (s : SrvD) (f : Int) : (newsL s f).length ≤ s.log.length := by
  unfold newsL
  split
  · rw [List.length_take, List.length_drop]; omega
  · simp
/-- News can be fetched in two parts. -/
theorem news_two {s : SrvD} {f : Int} {k : Nat} (h : newsOk s f = true) (hk : k ≤ (newsL s f).length) : newsOk s (f + k) = true ∧ (newsL s f).take k ++ newsL s (f + k) = newsL s f := by
  have hl := news_len h
  have h1 := newsOk_is.1 h
  have h2 := srv_iff.1 h1.1
  have h3 : newsOk s (f + k) = true := newsOk_is.2 ⟨h1.1, h1.2.1, by omega, by omega⟩
  refine ⟨h3, ?_⟩
  rw [news_yes h3, news_yes h, List.take_take]
  rw [show (f + (k : Int)).toNat = f.toNat + k by omega, ← List.drop_drop]
  rw [show min k (s.safe.toNat - f.toNat) = k by omega, show s.safe.toNat - (f.toNat + k) = s.safe.toNat - f.toNat - k by omega]
  generalize s.log.drop f.toNat = l
  rw [← List.drop_take]
  conv => rhs; rw [← List.take_append_drop k (l.take (s.safe.toNat - f.toNat))]
  rw [List.take_take, show min k (s.safe.toNat - f.toNat) = k by omega]
/-- A fall leaves the news as they were. -/
theorem news_fall {s : SrvD} {left f : Int} (h : fallOk s left = true) : newsL (fallS s left) f = newsL s f := by
  obtain ⟨h1, h2, h3⟩ := fallOk_is.1 h
  have h4 := srv_iff.1 h1
  rw [fall_yes h]
  have hb : newsOk ⟨s.log.take (fallE s left), s.safe, s.up⟩ f = newsOk s f := by
    unfold newsOk; rw [srv_fall h1 h2, h1]
  cases hn : newsOk s f
  · rw [news_no hn, news_no (hb.trans hn)]
  · rw [news_yes hn, news_yes (hb.trans hn)]
    have h5 := newsOk_is.1 hn
    simp only
    rw [List.drop_take, List.take_take]
    congr 1
    unfold fallE
    omega
theorem news_all {l : List EntD} (h : logB l = true) : newsL ⟨l, l.length, true⟩ 0 = l := by
  have h1 : newsOk ⟨l, l.length, true⟩ 0 = true := newsOk_is.2 ⟨srv_full h, rfl, by omega, by simp⟩
  rw [news_yes h1]; simp
theorem news_end {l : List EntD} (h : logB l = true) : newsL ⟨l, l.length, true⟩ l.length = [] := by
  have h1 : newsOk ⟨l, l.length, true⟩ l.length = true := newsOk_is.2 ⟨srv_full h, rfl, by omega, by simp⟩
  rw [news_yes h1]; simp
/-- What is there is not heard again. -/
theorem hear_again {s : SrvD} {e : EntD} {sf : Int} (h : hearB s e = true) (hs : srvB ⟨s.log ++ [e], sf, s.up⟩ = true) : hearS ⟨s.log ++ [e], sf, s.up⟩ e = ⟨s.log ++ [e], sf, s.up⟩ ∧ hearB ⟨s.log ++ [e], sf, s.up⟩ e = false := by
  obtain ⟨h1, h2, h3, h4, h5, h6⟩ := hear_is h
  refine hear_same (by simp [hearOk, hs, h2]) ?_
  have hok : okAdd (s.log ++ [e]) e = true := by simp [okAdd, h2, logB_snoc (srv_iff.1 h1).1 h2 h4]
  have := (add_has hok (has_snoc s.log e)).2
  simp [this]
theorem hear_next {s : SrvD} {e : EntD} (hs : srvB s = true) (he : entB e = true) (hu : s.up = true) (hn : nextB s.log e = true) : hearB s e = true ∧ hearS s e = ⟨s.log ++ [e], s.safe, s.up⟩ := by
  have hl := (srv_iff.1 hs).1
  have hok : okAdd s.log e = true := by simp [okAdd, hl, he]
  have h1 := (add_new hok (next_not_has hl hn) hn).2
  have h2 := hear_yes (s := s) (e := e) (by simp [hearOk, hs, he]) hu h1
  exact ⟨h2.2, h2.1⟩
theorem next_other {es : List EntD} {e f : EntD} (h : nextB es f = true) (hne : e.who ≠ f.who) (hl : es.length + 1 < 40) : nextB (es ++ [e]) f = true := by
  simp only [nextB, Bool.and_eq_true, beq_iff_eq, decide_eq_true_eq] at h ⊢
  rw [cnt_snoc, if_neg hne]
  refine ⟨by rw [h.1]; simp, by simp; omega⟩
end Go.Proofs.YtclhjgcapalniaaDoor
/-
  Boxes of struct variables. Conditions: as each theorem says.
-/
namespace Go.Proofs.YtclhjgcapalniaaDoor
open Go.ChangeShapes Go.WideShapes Go.ChangeAt Go.RowKit

/-- Block B is a variable's box with these cells. -/
def Bx (w : World) (B : Nat) (t : TypeId) (cs : Array Value) : Prop := w.heap[B]? = some (.cells cs t (0, 0))
theorem Bx.lt {w : World} {B : Nat} {t : TypeId} {cs : Array Value} (h : Bx w B t cs) : B < w.heap.size := (Array.getElem?_eq_some_iff.1 h).1
theorem Bx.cell {w : World} {B : Nat} {t : TypeId} {cs : Array Value} (h : Bx w B t cs) (j : Nat) {v : Value} (hv : cs[j]? = some v) : w.cell? ⟨B, j, none⟩ = some v := by
  simp [World.cell?, show w.heap[B]? = _ from h, hv]
theorem Bx.frozen {w : World} {B : Nat} {t : TypeId} {cs : Array Value} (h : Bx w B t cs) (j : Nat) : w.frozen? ⟨B, j, none⟩ = false := by simp [World.frozen?, show w.heap[B]? = _ from h]
theorem Bx.below {w w' : World} {B n : Nat} {t : TypeId} {cs : Array Value} (h : Bx w B t cs) (hb : Below n w w') (hn : B < n) : Bx w' B t cs := (hb.block B hn).trans h
theorem Bx.new (w : World) (t : TypeId) (cs : Array Value) : Bx (w.alloc (.cells cs t)) w.heap.size t cs := heap_alloc_new _ _
theorem Bx.put {w : World} {B : Nat} {t : TypeId} {cs : Array Value} (h : Bx w B t cs) (j : Nat) (v : Value) : Bx (w.setCell ⟨B, j, none⟩ v) B t (cs.setIfInBounds j v) := by unfold Bx at h ⊢; simp [World.setCell, Array.getElem?_modify, h]
theorem Bx.other {w : World} {B B' j : Nat} {t : TypeId} {cs : Array Value} (h : Bx w B t cs) (hne : B ≠ B') (v : Value) : Bx (w.setCell ⟨B', j, none⟩ v) B t cs := (Below.heap_setCell _ _ _ _ hne).trans h
theorem Bx.alloc {w : World} {B : Nat} {t : TypeId} {cs : Array Value} (h : Bx w B t cs) (o : Obj) : Bx (w.alloc o) B t cs := h.below ((Below.refl w.heap.size w).alloc (Nat.le_refl _) o) h.lt
theorem Bx.drew {w : World} {B : Nat} {t : TypeId} {cs : Array Value} (h : Bx w B t cs) : Bx w.drew B t cs := h
theorem Bx.srv {w : World} {B : Nat} {t : TypeId} {a : Option Addr} {n c : Nat} {sf : Int} {up : Bool} (h : Bx w B t #[.slice a n c, .int .i64 sf, .bool up]) : w.cell? ⟨B, 0, none⟩ = some (.slice a n c) ∧ w.cell? ⟨B, 1, none⟩ = some (.int .i64 sf) ∧ w.cell? ⟨B, 2, none⟩ = some (.bool up) :=
  ⟨h.cell 0 rfl, h.cell 1 rfl, h.cell 2 rfl⟩
theorem Bx.host {w : World} {B : Nat} {t : TypeId} {v q : Value} {sf : Int} {up : Bool} (h : Bx w B t #[v, .int .i64 sf, q, .bool up]) : w.cell? ⟨B, 0, none⟩ = some v ∧ w.cell? ⟨B, 1, none⟩ = some (.int .i64 sf) ∧ w.cell? ⟨B, 2, none⟩ = some q ∧ w.cell? ⟨B, 3, none⟩ = some (.bool up) :=
  ⟨h.cell 0 rfl, h.cell 1 rfl, h.cell 2 rfl, h.cell 3 rfl⟩
end Go.Proofs.YtclhjgcapalniaaDoor
/-
  A slice of one's own under writes to another block; what servers' functions give. Conditions: as each theorem says.
-/
namespace Go.Proofs.YtclhjgcapalniaaDoor
open Go.ChangeShapes Go.WideShapes Go.ChangeAt Go.RowKit Go.Joins

theorem Bx.but {w w' : World} {B b n : Nat} {t : TypeId} {cs : Array Value} (h : Bx w B t cs) (hb : But b n w w') (hn : B < n) (hne : B ≠ b) : Bx w' B t cs := (hb.block B hn hne).trans h
theorem own_lt {w : World} {base g n c k : Nat} {t : TypeId} {s : Nat} {xs : List Value} (h : w.ownsRow base t s (.slice (some ⟨g, 0, none⟩) n c) k xs) : base ≤ g ∧ g < w.heap.size := by
  rcases h.2 with ⟨q, _⟩ | ⟨g', cap, cur, hv, hg, hh, r⟩
  · cases q
  · cases hv
    exact ⟨hg, (Array.getElem?_eq_some_iff.1 hh).1⟩
/-- A slice of one's own that is not nil. -/
theorem own_some {w : World} {base n k c : Nat} {t : TypeId} {s : Nat} {a : Option Addr} {xs : List Value} (h : w.ownsRow base t s (.slice a n c) k xs) (hn : a ≠ none) : ∃ g, a = some ⟨g, 0, none⟩ := by
  rcases h.2 with ⟨q, _⟩ | ⟨g', cap, cur, hv, hg, hh, r⟩
  · cases q; exact absurd rfl hn
  · cases hv; exact ⟨g', rfl⟩
theorem eat_part {es : List EntD} {j k i : Nat} (h : i < k) : eat ((es.drop j).take k) i = eat es (j + i) := by
  unfold eat; rw [List.getD_eq_getElem?_getD, List.getD_eq_getElem?_getD, List.getElem?_take_of_lt h, List.getElem?_drop]
theorem EntsAt.part {B g off : Nat} {w : World} {es : List EntD} (h : EntsAt B w (some ⟨g, off, none⟩) es) (j k : Nat) : EntsAt B w (some ⟨g, off + j * 7, none⟩) ((es.drop j).take k) := by
  rcases h with h | ⟨b, o, e, hB, hc⟩
  · left
    rw [List.length_take, List.length_drop]; omega
  · cases e
    refine .inr ⟨g, off + j * 7, rfl, hB, fun i hi => ?_⟩
    rw [List.length_take, List.length_drop] at hi
    rw [eat_part (by omega), show off + j * 7 + i * 7 = off + (j + i) * 7 by omega]
    exact hc (j + i) (by omega)
/-- Where a slice of entries of one's own lies, when another block is written. -/
theorem GotE.put {base B j : Nat} {w : World} {a : Option Addr} {es : List EntD} (h : GotE base w a es) (hne : ∀ g, a = some ⟨g, 0, none⟩ → g ≠ B) (v : Value) : GotE base (w.setCell ⟨B, j, none⟩ v) a es := by
  rcases h with h | ⟨g, C, e, hg, f, h1, h2⟩
  · exact .inl h
  · exact .inr ⟨g, C, e, hg, f, h1.of_block (Below.heap_setCell _ _ _ _ (hne g e)), h2⟩
theorem GotE.base {base base' : Nat} {w : World} {a : Option Addr} {es : List EntD} (h : GotE base w a es) (hb : base' ≤ base) : GotE base' w a es := by
  rcases h with h | ⟨g, C, e, hg, f, h1, h2⟩
  · exact .inl h
  · exact .inr ⟨g, C, e, by omega, f, h1, h2⟩
end Go.Proofs.YtclhjgcapalniaaDoor
/-
  Contracts of slices.Clone at entries that are not nil, and of the program's ServerOk and hostOf. Conditions: as each theorem says.
-/
namespace Go.Proofs.YtclhjgcapalniaaDoor
open Go.ChangeShapes Go.WideShapes Go.ChangeAt Go.RowKit Go.Joins

theorem GotE.but' {base b n g : Nat} {w w' : World} {es : List EntD} (h : GotE base w (some ⟨g, 0, none⟩) es) (hb : But b n w w') (hn : w.heap.size ≤ n) (hne : g ≠ b) : GotE base w' (some ⟨g, 0, none⟩) es := by
  rcases h with h | ⟨g', C, e, hg, f, h1, h2⟩
  · exact .inl h
  · cases e
    exact .inr ⟨g, C, rfl, hg, f, h1.of_block (hb.block g (Nat.lt_of_lt_of_le h1.lt hn) hne), h2⟩
/-- Entries of the call's own, not nil. -/
structure OwnG (base : Nat) (w : World) (g c : Nat) (es : List EntD) : Prop where
  got : GotE base w (some ⟨g, 0, none⟩) es
  lo : base ≤ g
  hi : g < w.heap.size
  len : es.length ≤ c
  cap : c ≤ maxLen
theorem OwnG.below {base n g c : Nat} {w w' : World} {es : List EntD} (h : OwnG base w g c es) (hb : Below n w w') (hn : w.heap.size ≤ n) : OwnG base w' g c es :=
  ⟨h.got.below hb hn, h.lo, Nat.lt_of_lt_of_le h.hi hb.size, h.len, h.cap⟩
theorem OwnG.put {base B j g c : Nat} {w : World} {es : List EntD} (h : OwnG base w g c es) (hne : g ≠ B) (v : Value) : OwnG base (w.setCell ⟨B, j, none⟩ v) g c es :=
  ⟨h.got.put (fun g' e => by cases e; exact hne) v, h.lo, by have := h.hi; simpa [World.setCell] using this, h.len, h.cap⟩
theorem OwnG.ents {base g c : Nat} {w : World} {es : List EntD} (h : OwnG base w g c es) : EntsAt w.heap.size w (some ⟨g, 0, none⟩) es := h.got.ents
theorem OwnG.alloc {base g c : Nat} {w : World} {es : List EntD} (h : OwnG base w g c es) (o : Obj) : OwnG base (w.alloc o) g c es := h.below ((Below.refl w.heap.size w).alloc (Nat.le_refl _) o) (Nat.le_refl _)
theorem OwnG.mono {base base' g c : Nat} {w : World} {es : List EntD} (h : OwnG base w g c es) (hb : base' ≤ base) : OwnG base' w g c es := ⟨h.got.base hb, Nat.le_trans hb h.lo, h.hi, h.len, h.cap⟩
theorem OwnG.drew {base g c : Nat} {w : World} {es : List EntD} (h : OwnG base w g c es) : OwnG base w.drew g c es := h.below (n := w.heap.size) ((Below.refl _ _).drew) (Nat.le_refl _)
def RetCl (es : List EntD) (w : World) (r : Ending) (w' : World) : Prop := ∃ g c, r = .returned (.slice (some ⟨g, 0, none⟩) es.length c) ∧ OwnG w.heap.size w' g c es ∧ Below w.heap.size w w'
theorem ownG_of {w' : World} {base g c : Nat} {es : List EntD} (h : w'.ownsRow base 64 7 (.slice (some ⟨g, 0, none⟩) es.length c) es.length (cellsE es)) : OwnG base w' g c es :=
  ⟨gotE_own h, (own_lt h).1, (own_lt h).2, (own_capm h).1, (own_capm h).2⟩
/-- What hostOf gives. -/
def RetHost (es : List EntD) (sf : Int) (up : Bool) (w : World) (r : Ending) (w' : World) : Prop :=
  Below w.heap.size w w' ∧ ((srvB ⟨es, sf, up⟩ = true ∧ ∃ g c, r = .returned (.tuple #[.agg #[.slice (some ⟨g, 0, none⟩) es.length c, .int .i64 sf, .slice none 0 0, .bool up], .bool true]) ∧ OwnG w.heap.size w' g c es) ∨ (srvB ⟨es, sf, up⟩ = false ∧ r = .returned (.tuple #[.agg #[.slice none 0 0, .int .i64 0, .slice none 0 0, .bool false], .bool false])))
end Go.Proofs.YtclhjgcapalniaaDoor
