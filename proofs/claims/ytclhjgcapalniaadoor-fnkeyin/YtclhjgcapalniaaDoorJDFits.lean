/-
  The model's drawing of an outline and a change of it: l71Fits, DrawOpDo. Conditions: as each theorem says.
-/
import Derived.Test.YtclhjgcapalniaaDoorGF
namespace Go.Proofs.YtclhjgcapalniaaDoor
open Go.ChangeShapes Go.WideShapes Go.ChangeAt Go.RowKit Go.Joins

theorem Loose.set {base B k cap g off : Nat} {w : World} {v : Value} {rs : List RowD} (h : Loose base w (some ⟨g, off, none⟩) cap rs) (hne : g ≠ B) : Loose base (w.setCell ⟨B, k, none⟩ v) (some ⟨g, off, none⟩) cap rs := by
  have hb : But B w.heap.size w (w.setCell ⟨B, k, none⟩ v) := (But.refl _ _ _).setCell k v
  obtain ⟨g', off', e, h1, h2, h3, h4, h5⟩ := h
  cases e
  have hs := hb.size
  refine ⟨g, off, rfl, h1, by omega, ?_, fun o => by rw [hb.frozen (p := ⟨g, o, none⟩) h2 hne]; exact h4 o, h5⟩
  rcases h3 with h3 | ⟨b', off', e, hB, hc⟩
  · exact .inl h3
  · cases e
    refine .inr ⟨g, off, rfl, by omega, fun i hi => ?_⟩
    rw [hb.cell (p := ⟨g, _, none⟩) h2 hne, hb.cell (p := ⟨g, _, none⟩) h2 hne, hb.cell (p := ⟨g, _, none⟩) h2 hne]
    exact hc i hi
/-- What holds while an outline and a change are drawn: block B is the change's box, the first new block the result's. -/
structure FH (N b p B : Nat) (w0 w : World) (g off cap : Nat) (rs : List RowD) (o : OpD) : Prop where
  loose : Loose w0.heap.size w (some ⟨g, off, none⟩) cap rs
  but : But b w0.heap.size w0 w
  rd : Rd N w b p
  lt : b < w0.heap.size
  box : OBox w B o
  le : w0.heap.size ≤ B
  ne : g ≠ B
  res : OBox w w0.heap.size oz
  gne : g ≠ w0.heap.size
  bne : w0.heap.size ≠ B
  ok : OpS o
theorem FH.more {N b p q B g off cap : Nat} {w0 w w' : World} {rs : List RowD} {o : OpD} (h : FH N b p B w0 w g off cap rs o) (hb : But b w.heap.size w w') (hr : Rd N w' b q) : FH N b q B w0 w' g off cap rs o :=
  ⟨h.loose.but hb h.lt, h.but.trans (hb.mono h.but.size), hr, h.lt, h.box.but hb h.box.lt (by have := h.lt; have := h.le; omega), h.le, h.ne, h.res.but hb h.res.lt (by have := h.lt; omega), h.gne, h.bne, h.ok⟩
theorem FH.below {N b p B g off cap : Nat} {w0 w w' : World} {rs : List RowD} {o : OpD} (h : FH N b p B w0 w g off cap rs o) (hb : Below w.heap.size w w') : FH N b p B w0 w' g off cap rs o :=
  ⟨h.loose.below hb, h.but.trans ((But.of_below hb).mono h.but.size), h.rd.below hb h.rd.2.1, h.lt, h.box.below hb h.box.lt, h.le, h.ne, h.res.below hb h.res.lt, h.gne, h.bne, h.ok⟩
theorem FH.put {N b p B k g off cap : Nat} {w0 w : World} {rs : List RowD} {o o' : OpD} {v : Value} (h : FH N b p B w0 w g off cap rs o) (h' : OBox (w.setCell ⟨B, k, none⟩ v) B o') (ho : OpS o') : FH N b p B w0 (w.setCell ⟨B, k, none⟩ v) g off cap rs o' := by
  have hB : Below w0.heap.size w (w.setCell ⟨B, k, none⟩ v) := (Below.refl _ _).setCell (p := ⟨B, k, none⟩) h.le _
  exact ⟨h.loose.set h.ne, h.but.trans (But.of_below hB), h.rd.below hB h.lt, h.lt, h', h.le, h.ne, (Below.heap_setCell _ _ _ _ h.bne).trans h.res, h.gne, h.bne, ho⟩
theorem FH.put1 {N b p B g off cap : Nat} {w0 w : World} {rs : List RowD} {o : OpD} (h : FH N b p B w0 w g off cap rs o) (z : Int) (z0 : 0 ≤ z) (z1 : z ≤ 99) : FH N b p B w0 (w.setCell ⟨B, 1, none⟩ (.int .i64 z)) g off cap rs ⟨o.kind, z, o.up, o.at_, o.txt⟩ :=
  h.put (h.box.set1 z) ⟨h.ok.kind, ⟨z0, z1⟩, h.ok.up, h.ok.at_, h.ok.txt⟩
theorem FH.put2 {N b p B g off cap : Nat} {w0 w : World} {rs : List RowD} {o : OpD} (h : FH N b p B w0 w g off cap rs o) (z : Int) (z0 : 0 ≤ z) (z1 : z ≤ 99) : FH N b p B w0 (w.setCell ⟨B, 2, none⟩ (.int .i64 z)) g off cap rs ⟨o.kind, o.id, z, o.at_, o.txt⟩ :=
  h.put (h.box.set2 z) ⟨h.ok.kind, h.ok.id, ⟨z0, z1⟩, h.ok.at_, h.ok.txt⟩
theorem FH.put3 {N b p B g off cap : Nat} {w0 w : World} {rs : List RowD} {o : OpD} (h : FH N b p B w0 w g off cap rs o) (z : Int) (z0 : 0 ≤ z) (z1 : z ≤ 99) : FH N b p B w0 (w.setCell ⟨B, 3, none⟩ (.int .i64 z)) g off cap rs ⟨o.kind, o.id, o.up, z, o.txt⟩ :=
  h.put (h.box.set3 z) ⟨h.ok.kind, h.ok.id, h.ok.up, ⟨z0, z1⟩, h.ok.txt⟩
/-- An outline and a change were drawn. -/
def DrewFit (N b p : Nat) (w : World) (e : Ending) (w' : World) : Prop :=
  ∃ (a : Option Addr) (cap : Nat) (rs : List RowD) (o : OpD), OpS o ∧ e = .returned (.tuple #[.slice a rs.length cap, .agg #[.int .i64 o.kind, .int .i64 o.id, .int .i64 o.up, .int .i64 o.at_, .string o.txt]]) ∧ Loose w.heap.size w' a cap rs ∧ But b w.heap.size w w' ∧ Rd N w' b p
theorem FH.drew {N b p q B g off cap : Nat} {w w' : World} {rs : List RowD} {o : OpD} (h : FH N b p B w w' g off cap rs o) (hq : p ≤ q) : DrewFit N b q w (.returned (.tuple #[.slice (some ⟨g, off, none⟩) rs.length cap, .agg #[.int .i64 o.kind, .int .i64 o.id, .int .i64 o.up, .int .i64 o.at_, .string o.txt]])) (given w' w.heap.size o) := by
  have hB : Below w.heap.size w' (given w' w.heap.size o) := by
    unfold given
    exact (((((Below.refl _ _).setCell (p := ⟨w.heap.size, 0, none⟩) (Nat.le_refl _) _).setCell (p := ⟨w.heap.size, 1, none⟩) (Nat.le_refl _) _).setCell (p := ⟨w.heap.size, 2, none⟩) (Nat.le_refl _) _).setCell (p := ⟨w.heap.size, 3, none⟩) (Nat.le_refl _) _).setCell (p := ⟨w.heap.size, 4, none⟩) (Nat.le_refl _) _
  refine ⟨_, cap, rs, o, h.ok, rfl, ?_, h.but.trans (But.of_below hB), (h.rd.mono hq).below hB h.lt⟩
  unfold given
  exact ((((h.loose.set h.gne).set h.gne).set h.gne).set h.gne).set h.gne
theorem ints_get {base : Nat} {w : World} {a : Option Addr} {xs : List Int} (h : IntsAt base w a xs) {i : Nat} (hi : i < xs.length) : ∃ g, a = some ⟨g, 0, none⟩ ∧ base ≤ g ∧ g < w.heap.size ∧ w.cell? ⟨g, i, none⟩ = some (.int .i64 (xs.getD i 0)) := by
  rcases h with h | ⟨g, e, h1, h2, h3⟩
  · omega
  · exact ⟨g, e, h1, h2, (h3 i hi).1⟩
theorem kids_bd {rs : List RowD} {id : Int} (hb : ∀ r ∈ rs, Bd 20 r) {i : Nat} (hi : i < (kidsL rs id).length) : 0 ≤ (kidsL rs id).getD i 0 ∧ (kidsL rs id).getD i 0 ≤ 99 := by
  have hm : (kidsL rs id).getD i 0 ∈ kidsL rs id := by rw [List.getD_eq_getElem?_getD, List.getElem?_eq_getElem hi]; exact List.getElem_mem hi
  generalize (kidsL rs id).getD i 0 = q at hm
  have ht := kidsL_there hm
  have e := atN_id ht
  have := hb _ (rat_mem ht)
  exact ⟨by rw [← e]; exact this.1, by rw [← e]; exact this.2.1⟩
end Go.Proofs.YtclhjgcapalniaaDoor
