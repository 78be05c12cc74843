/-
  An argument that is a slice of rows, opened; the laws' own helpers szRowS, toRowS, eqRow, eqRowS. Conditions: as each theorem says.
-/
import Derived.Test.YtefelnodahcolaaDoorTMem
import Derived.Deep.Slices
import Derived.Deep.Strs
import Derived.Deep.Fields
import Derived.Deep.OwnRows
import Derived.ChangeSame
namespace Go.Proofs.YtefelnodahcolaaDoor
open Go.ChangeShapes Go.WideShapes Go.ChangeAt Go.RowKit Go.Joins

def FitW (rs : List RowD) : Prop := ∀ i, i < rs.length → I64 (rat rs i).id ∧ I64 (rat rs i).dep ∧ (rat rs i).txt.size ≤ maxLen
def CellsR (w : World) (b o : Nat) (r : RowD) : Prop := w.cell? ⟨b, o, none⟩ = some (.int .i64 r.id) ∧ w.cell? ⟨b, o + 1, none⟩ = some (.int .i64 r.dep) ∧ w.cell? ⟨b, o + 2, none⟩ = some (.string r.txt)
theorem rat_map (f : Nat → RowD) (n i : Nat) (h : i < n) : rat ((List.range n).map f) i = f i := by simp [rat, h]
theorem addr_add (b o n : Nat) : (⟨b, o, none⟩ : Addr).add n = ⟨b, o + n, none⟩ := by
  unfold Addr.add; split <;> simp_all
theorem cellsRow : Tryd.prog.cellsOf 40 = 3 := by kernel_rfl
theorem cellsInt1 : Tryd.prog.cellsOf 3 = 1 := by kernel_rfl
theorem cellsStr1 : Tryd.prog.cellsOf 9 = 1 := by kernel_rfl
set_option maxRecDepth 100000 in
theorem elem_of {H : Type} {enc : TypeId × Value → H} {W : World} {spare : Nat → Bool} {held : Bool} {n ab o : Nat} {cs : List Value} {y : DataW H × List MemPlace} (hc : W.cells? 0 ⟨ab, o, none⟩ 3 = some cs)
    (h : DataW.trod enc Tryd.prog W 0 spare held n 40 cs = some y) : ∃ r : RowD, CellsR W ab o r ∧ I64 r.id ∧ I64 r.dep ∧ r.txt.size ≤ maxLen := by
  obtain ⟨_, hl, hat⟩ := World.cells?_some hc
  obtain ⟨y0, y1, y2, m, _, _, h0, h1, h2⟩ := Go.Deep.trod_struct3 Tryd.underlying40 h
  match cs, hl with
  | [c0, c1, c2], _ =>
    have a0 := hat 0 (by decide)
    have a1 := hat 1 (by decide)
    have a2 := hat 2 (by decide)
    rw [addr_add] at a0 a1 a2
    simp only [cellsInt1, cellsStr1, List.drop_zero, List.drop_succ_cons, List.take_succ_cons, List.take_zero] at h0 h1 h2
    obtain ⟨i, e0, _, w0⟩ := DataW.trod_int Tryd.underlying3 h0
    obtain ⟨d, e1, _, w1⟩ := DataW.trod_int Tryd.underlying3 h1
    obtain ⟨t, e2, _, w2⟩ := DataW.trod_string Tryd.underlying9 h2
    simp only [List.cons.injEq, and_true] at e0 e1 e2
    subst e0 e1 e2
    exact ⟨⟨i, d, t⟩, ⟨a0, a1, a2⟩, i64_of_wf w0, i64_of_wf w1, w2⟩
set_option maxRecDepth 100000 in
theorem rows_of {H : Type} {enc : TypeId × Value → H} {W : World} {spare : Nat → Bool} {held : Bool} {a : Option Addr} {len cap : Nat} {d : DataW H} {p : List MemPlace}
    (h : DataW.Trod enc Tryd.prog W 0 spare held 22 (.slice a len cap) d p) : ∃ rs : List RowD, rs.length = len ∧ len ≤ cap ∧ cap ≤ maxLen ∧ RowsAt W.heap.size W a rs ∧ FitW rs := by
  obtain ⟨fuel, hf⟩ := h
  rcases Go.Deep.open_slice Tryd.underlying22 hf with ⟨hcs, _⟩ | ⟨x, l, c, m, n, D, Pl, hcs, _, hl, hm, hmm, _, hi⟩
  · simp [Value.cells] at hcs
    obtain ⟨rfl, rfl, rfl⟩ := hcs
    exact ⟨[], rfl, Nat.le_refl _, Nat.zero_le _, .inl rfl, fun i hi => by simp at hi⟩
  · simp [Value.cells] at hcs
    obtain ⟨rfl, rfl, rfl⟩ := hcs
    have hlm : len ≤ m := by rw [hmm]; split <;> omega
    rw [cellsRow] at hi
    by_cases h0 : len = 0
    · subst h0
      exact ⟨[], rfl, hl, hm, .inl rfl, fun i hi => by simp at hi⟩
    obtain ⟨ab, aoff, spot⟩ := x
    have hspot : spot = none := by
      obtain ⟨cs', hc, _⟩ := hi 0 (by omega)
      obtain ⟨_, hcl, hat⟩ := World.cells?_some hc
      have h1 := hat 0 (by decide)
      rw [List.getElem?_eq_getElem (by omega)] at h1
      simpa [Addr.add] using World.cell?_spot h1
    subst hspot
    have H : ∀ i, i < len → ∃ r : RowD, CellsR W ab (aoff + i * 3) r ∧ I64 r.id ∧ I64 r.dep ∧ r.txt.size ≤ maxLen := fun i hil => by
      obtain ⟨cs', hc, ht⟩ := hi i (by omega)
      rw [addr_add] at hc
      exact elem_of hc ht
    have hab : ab < W.heap.size := by
      obtain ⟨r, ⟨hc, _⟩, _⟩ := H 0 (by omega)
      rcases Nat.lt_or_ge ab W.heap.size with q | q
      · exact q
      · have hn : W.heap[ab]? = none := by simp; omega
        simp [World.cell?, hn] at hc
    let F : Nat → RowD := fun i => if h : i < len then Classical.choose (H i h) else rz
    have hF : ∀ i, i < len → CellsR W ab (aoff + i * 3) (F i) ∧ I64 (F i).id ∧ I64 (F i).dep ∧ (F i).txt.size ≤ maxLen := fun i hil => by
      have := Classical.choose_spec (H i hil)
      simp only [F, dif_pos hil]; exact this
    refine ⟨(List.range len).map F, by simp, hl, hm, .inr ⟨ab, aoff, rfl, hab, fun i hil => ?_⟩, fun i hil => ?_⟩
    · simp only [List.length_map, List.length_range] at hil
      rw [rat_map F len i hil]; exact (hF i hil).1
    · simp only [List.length_map, List.length_range] at hil
      rw [rat_map F len i hil]; exact (hF i hil).2

/-! ### szRowS -/
def Sized (rs : List RowD) (w : World) (e : Ending) (w' : World) : Prop := ∃ z : Int, e = .returned (.int .i64 z) ∧ (z < 0 ∨ (0 ≤ z ∧ rs.length ≤ 1048576)) ∧ Below w.heap.size w w'
theorem szRowS_any (B : Nat) (a : Option Addr) (cap : Nat) (rs : List RowD) (w : World) (hB : B ≤ w.heap.size) (h : RowsAt B w a rs) (hf : FitW rs) (hl : rs.length ≤ maxLen) :
    Calls Tryd.prog 7 #[.slice a rs.length cap, .int .i64 1048576] w (Sized rs w) := by
  unfold maxLen at hl
  by_cases h0 : (1048576 : Int) - (rs.length : Int) < 0
  · go_enter Tryd.func7, Tryd.ntmps7
    go_wp2
    go_ret
    exact ⟨-1, rfl, .inl (by decide), Below.refl _ _⟩
  · have hlen : rs.length ≤ 1048576 := by omega
    go_enter Tryd.func7, Tryd.ntmps7
    go_wp2_with fail
    go_loopw [1, 5] (fun l t wr => ∃ (k : Nat) (z : Int), k ≤ rs.length ∧ t = .int .i64 k ∧ l = .int .i64 z ∧ 0 ≤ z ∧ z ≤ 1048576 ∧ Below w.heap.size w wr) (fun _ t _ => rs.length - (intOf t).toNat)
    case atStart => exact ⟨0, _, Nat.zero_le _, rfl, rfl, by omega, by omega, Below.refl _ _⟩
    case round =>
      obtain ⟨k, z, hk, rfl, rfl, z0, z1, hb⟩ := hrel
      have hr := h.below (hb.mono hB)
      by_cases hlt : k < rs.length
      · obtain ⟨b, off, rfl, hbB, c0, c1, c2⟩ := hr.at_ hlt
        obtain ⟨f1, f2, f3⟩ := hf k hlt
        by_cases hz : z - ((rat rs k).txt.size : Int) < 0
        · go_wp2_with fail
          refine (szRow_neg _ _ _ _ _ f3 z0 z1 hz).mono ?_
          rintro e w1 ⟨rfl, hb1⟩
          go_wp2
          go_ret
          exact ⟨-1, rfl, .inl (by decide), hb.trans (hb1.mono hb.size)⟩
        · have hz' : 0 ≤ z - ((rat rs k).txt.size : Int) := by omega
          have hz2 : z - ((rat rs k).txt.size : Int) ≤ 1048576 := by omega
          go_wp2_with fail
          refine (szRow_pos _ _ _ _ _ f3 z1 hz').mono ?_
          rintro e w1 ⟨rfl, hb1⟩
          generalize z - ((rat rs k).txt.size : Int) = z' at *
          clear hz
          go_wp2
          go_roundw
          case rel => exact ⟨k + 1, z', by omega, by go_num, rfl, hz', hz2, hb.trans (hb1.mono hb.size)⟩
          case measure => simp [intOf]; omega
      · go_wp2
        go_ret
        exact ⟨z, rfl, .inr ⟨z0, hlen⟩, hb⟩
end Go.Proofs.YtefelnodahcolaaDoor
