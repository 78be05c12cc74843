/-
  The laws' own helpers toRowS, eqRow, eqRowS. Conditions: as each theorem says.
-/
import Derived.Test.YtefelnodahcolaaDoorRowsArg
import Derived.Test.YtefelnodahcolaaDoorTKids
namespace Go.Proofs.YtefelnodahcolaaDoor
open Go.ChangeShapes Go.WideShapes Go.ChangeAt Go.RowKit Go.Joins

def RowsF (f : Nat → Value) (rs : List RowD) (k : Nat) : Prop := ∀ i, i < k → f (i * 3) = .int .i64 (rat rs i).id ∧ f (i * 3 + 1) = .int .i64 (rat rs i).dep ∧ f (i * 3 + 2) = .string (rat rs i).txt
/-- Block g holds the rows rs and nothing else; none of its cells is frozen. -/
def OwnRows (w : World) (g : Nat) (rs : List RowD) : Prop := ∃ f, w.rowIs g 46 (rs.length * 3) f ∧ RowsF f rs rs.length
theorem OwnRows.below {w w' : World} {g B : Nat} {rs : List RowD} (h : OwnRows w g rs) (hb : Below B w w') (hg : g < B) : OwnRows w' g rs := by
  obtain ⟨f, h1, h2⟩ := h
  exact ⟨f, h1.of_block (hb.block g hg), h2⟩
theorem OwnRows.lt {w : World} {g : Nat} {rs : List RowD} (h : OwnRows w g rs) : g < w.heap.size := by obtain ⟨f, h1, _⟩ := h; exact h1.lt
theorem OwnRows.at_ {w : World} {g B : Nat} {rs : List RowD} (h : OwnRows w g rs) (hg : g < B) : RowsAt B w (some ⟨g, 0, none⟩) rs := by
  obtain ⟨f, h1, h2⟩ := h
  refine .inr ⟨g, 0, rfl, hg, fun i hi => ?_⟩
  obtain ⟨a, b, c⟩ := h2 i hi
  rw [Nat.zero_add, h1.cell (show i * 3 < _ by omega), h1.cell (show i * 3 + 1 < _ by omega), h1.cell (show i * 3 + 2 < _ by omega), a, b, c]
  exact ⟨rfl, rfl, rfl⟩
def RetRows (rs : List RowD) (w : World) (e : Ending) (w' : World) : Prop := ∃ g, e = .returned (.slice (some ⟨g, 0, none⟩) rs.length rs.length) ∧ w.heap.size ≤ g ∧ OwnRows w' g rs ∧ Below w.heap.size w w'
theorem infoRow : (Tryd.prog.info? 46).map (fun i => (i.zero, i.size, i.bytes)) = some (some (.agg #[.int .i64 0, .int .i64 0, .string ⟨#[]⟩]), 3, 32) := by kernel_rfl
theorem rowIs_of_own {w : World} {base g n : Nat} {e : TypeId} {size : Nat} {xs : List Value} (h : w.ownsRow base e size (.slice (some ⟨g, 0, none⟩) n n) n xs) : ∃ f, w.rowIs g e (n * size) f := by
  rcases h.2 with ⟨h1, _⟩ | ⟨g', cap, cur, hv, _, hh, _, _, hs, _⟩
  · cases h1
  · cases hv
    exact ⟨fun i => cur.getD i undef, cur, hh, hs, fun i hi => by rw [Array.getElem?_eq_getElem (by omega)]; simp [Array.getD, show i < cur.size by omega]⟩
theorem rowsF_set {f : Nat → Value} {rs : List RowD} {k : Nat} (h : RowsF f rs k) :
    RowsF (fun j => if j = k * 3 + 2 then .string (rat rs k).txt else if j = k * 3 + 1 then .int .i64 (rat rs k).dep else if j = k * 3 then .int .i64 (rat rs k).id else f j) rs (k + 1) := by
  intro i hi
  by_cases e : i = k
  · subst e
    refine ⟨?_, ?_, ?_⟩
    · show (if _ then _ else if _ then _ else if _ then _ else _) = _
      rw [if_neg (by omega), if_neg (by omega), if_pos rfl]
    · show (if _ then _ else if _ then _ else if _ then _ else _) = _
      rw [if_neg (by omega), if_pos rfl]
    · show (if _ then _ else if _ then _ else if _ then _ else _) = _
      rw [if_pos rfl]
  · obtain ⟨a, b, c⟩ := h i (by omega)
    refine ⟨?_, ?_, ?_⟩
    · show (if _ then _ else if _ then _ else if _ then _ else _) = _
      rw [if_neg (by omega), if_neg (by omega), if_neg (by omega)]; exact a
    · show (if _ then _ else if _ then _ else if _ then _ else _) = _
      rw [if_neg (by omega), if_neg (by omega), if_neg (by omega)]; exact b
    · show (if _ then _ else if _ then _ else if _ then _ else _) = _
      rw [if_neg (by omega), if_neg (by omega), if_neg (by omega)]; exact c
set_option maxRecDepth 100000 in
theorem toRowS_any (B : Nat) (a : Option Addr) (cap : Nat) (rs : List RowD) (w : World) (hB : B ≤ w.heap.size) (h : RowsAt B w a rs) (hl : rs.length ≤ 1048576) :
    Calls Tryd.prog 9 #[.slice a rs.length cap] w (RetRows rs w) := by
  obtain ⟨i0, hi, hz0, hz1, hz2⟩ := info_parts infoRow
  go_enter Tryd.func9, Tryd.ntmps9
  go_wp2_with (refine wpList_make_full _ rfl _ _ 28 rfl w.heap.size 46 i0 (.agg #[.int .i64 0, .int .i64 0, .string ⟨#[]⟩]) 3 Tryd.underlying28 hi hz0 hz1 .i64 .i64 _ _ rs.length rfl rfl rfl rfl ?b2 ?b3 ?b4 ?_)
  case b2 => rw [hz2]; omega
  case b3 => unfold maxLen; omega
  case b4 => exact Nat.le_refl _
  intro w0 hown hgrow
  have hb0 : Below w.heap.size w w0 := (Below.refl _ w).grown hgrow (Nat.le_refl _) (fun k e => by cases e)
  obtain ⟨f0, hf0⟩ := rowIs_of_own hown
  have hs0 : w.heap.size < w0.heap.size := hf0.lt
  clear hown hgrow hi hz0 hz1 hz2
  generalize hg : w.heap.size = g at *
  have HG := Lib.hid hg
  clear hg
  go_wp2_with fail
  go_loopw [4] (fun t wr => ∃ (k : Nat) (f : Nat → Value), k ≤ rs.length ∧ t = .int .i64 k ∧ wr.rowIs g 46 (rs.length * 3) f ∧ Hid (RowsF f rs k) ∧ Below g w wr) (fun t _ => rs.length - (intOf t).toNat)
  case atStart => exact ⟨0, f0, Nat.zero_le _, rfl, hf0, fun i hi => by omega, hb0⟩
  case round =>
    obtain ⟨k, f, hk, rfl, hrow, hF, hb⟩ := hrel
    have hr := h.below (hb.mono hB)
    have hgw := hrow.lt
    by_cases hlt : k < rs.length
    · obtain ⟨b, off, rfl, hbB, c0, c1, c2⟩ := hr.at_ hlt
      have i1 : (k : Int) < (rs.length : Int) := by omega
      go_wp2_with fail
      refine (toRow_any _ _ _ _).mono ?_
      rintro e w1 ⟨rfl, hb1⟩
      have hrow1 : w1.rowIs g 46 (rs.length * 3) f := hrow.of_block (hb1.block g hgw)
      have hbw1 : Below g w w1 := hb.trans (hb1.mono (by omega))
      have d0 := hrow1.cell (show k * 3 < _ by omega)
      have d1 := hrow1.cell (show k * 3 + 1 < _ by omega)
      have d2 := hrow1.cell (show k * 3 + 2 < _ by omega)
      have z0 := hrow1.frozen (k * 3)
      have z1 := hrow1.frozen (k * 3 + 1)
      have z2 := hrow1.frozen (k * 3 + 2)
      generalize f (k * 3) = v0 at d0
      generalize f (k * 3 + 1) = v1 at d1
      generalize f (k * 3 + 2) = v2 at d2
      go_wp2
      go_roundw
      case rel => exact ⟨k + 1, _, by omega, by go_num, ((hrow1.set (k * 3) _).set (k * 3 + 1) _).set (k * 3 + 2) _, rowsF_set hF.out, ((hbw1.setCell (p := ⟨g, k * 3, none⟩) (Nat.le_refl _) _).setCell (p := ⟨g, k * 3 + 1, none⟩) (Nat.le_refl _) _).setCell (p := ⟨g, k * 3 + 2, none⟩) (Nat.le_refl _) _⟩
      case measure => simp [intOf]; omega
    · obtain rfl : k = rs.length := by omega
      go_wp2
      go_ret
      exact ⟨g, rfl, by rw [HG.out]; exact Nat.le_refl _, ⟨f, hrow, hF.out⟩, by rw [HG.out]; exact hb⟩

/-! ### eqRow, eqRowS of one and the same -/
theorem eqRow_same (i d : Int) (t : ByteArray) (w : World) :
    Calls Tryd.prog 27 #[.agg #[.int .i64 i, .int .i64 d, .string t], .agg #[.int .i64 i, .int .i64 d, .string t]] w (RetBelow (.bool true) w) := by
  go_enter Tryd.func27, Tryd.ntmps27
  go_wp2
  go_ret
  exact ⟨rfl, ((Below.refl _ _).alloc (Nat.le_refl _) _).alloc (by simp) _⟩
theorem eqRowS_same (B : Nat) (a a' : Option Addr) (cap cap' : Nat) (rs : List RowD) (w : World) (hB : B ≤ w.heap.size) (h : RowsAt B w a rs) (h' : RowsAt B w a' rs) (hl : rs.length ≤ 1048576) :
    Calls Tryd.prog 12 #[.slice a rs.length cap, .slice a' rs.length cap'] w (RetBelow (.bool true) w) := by
  go_enter Tryd.func12, Tryd.ntmps12
  go_wp2_with fail
  go_loopw [5] (fun t wr => ∃ k : Nat, k ≤ rs.length ∧ t = .int .i64 k ∧ Below w.heap.size w wr) (fun t _ => rs.length - (intOf t).toNat)
  case atStart => exact ⟨0, Nat.zero_le _, rfl, Below.refl _ _⟩
  case round =>
    obtain ⟨k, hk, rfl, hb⟩ := hrel
    have hr := h.below (hb.mono hB)
    have hr' := h'.below (hb.mono hB)
    by_cases hlt : k < rs.length
    · obtain ⟨b, off, rfl, hbB, c0, c1, c2⟩ := hr.at_ hlt
      obtain ⟨b', off', rfl, hbB', d0, d1, d2⟩ := hr'.at_ hlt
      have i1 : (k : Int) < (rs.length : Int) := by omega
      have hbw : b < wr.heap.size := by have := hb.size; omega
      have hbw' : b' < wr.heap.size := by have := hb.size; omega
      have L0 := later_cell c0 hbw
      have L1 := later_cell c1 hbw
      have L2 := later_cell c2 hbw
      have M0 := later_cell d0 hbw'
      have M1 := later_cell d1 hbw'
      have M2 := later_cell d2 hbw'
      go_wp2_with fail
      refine wp_region_later (by kernel_rfl) (by kernel_rfl) ?_
      repeat (go_big_quiet_step ((go_at_call 27; exact later_of (eqRow_same _ _ _ _))))
      refine wpQuiet_nil ?_
      rintro wn ⟨⟨_, hbn⟩, rfl⟩
      clear L0 L1 L2 M0 M1 M2
      go_wp2
      go_roundw
      case rel => exact ⟨k + 1, by omega, by go_num, hb.trans (hbn.mono hb.size)⟩
      case measure => simp [intOf]; omega
    · go_wp2
      go_ret
      exact ⟨rfl, hb⟩
end Go.Proofs.YtefelnodahcolaaDoor
