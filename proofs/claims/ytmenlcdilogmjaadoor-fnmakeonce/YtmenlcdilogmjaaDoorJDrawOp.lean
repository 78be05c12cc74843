/-
  spec.DrawOpDo: some outline and some change, in bounds. Conditions: the code reads as bytes.
-/
import Derived.Test.YtmenlcdilogmjaaDoorJDFits
namespace Go.Proofs.YtmenlcdilogmjaaDoor
open Go.ChangeShapes Go.WideShapes Go.ChangeAt Go.RowKit Go.Joins

def DrewDo (w : World) (e : Ending) (w' : World) : Prop :=
  ∃ (a : Option Addr) (cap : Nat) (rs : List RowD) (o : OpD), OpS o ∧ e = .returned (.tuple #[.slice a rs.length cap, .agg #[.int .i64 o.kind, .int .i64 o.id, .int .i64 o.up, .int .i64 o.at_, .string o.txt]]) ∧ Loose w.heap.size w' a cap rs ∧ Below w.heap.size w w'
set_option maxRecDepth 100000 in
set_option maxHeartbeats 400000 in
theorem drawOpDo_any (a : Option Addr) (len cap : Nat) (w : World) (hb : Bytes w a len cap) :
    Calls Tryd.prog 37 #[.slice a len cap] w (DrewDo w) := by
  obtain ⟨h1, h2, h3⟩ := hb
  have hal : Below w.heap.size w (w.alloc (.cells #[.int .i64 0, .int .i64 0, .int .i64 0, .int .i64 0, .string ⟨#[]⟩] 31)) := (Below.refl _ _).alloc (Nat.le_refl _) _
  have hR0 := OBox.new w oz
  go_enter Tryd.func37, Tryd.ntmps37
  go_wp2_with fail
  refine (l6Open_any w.heap.size _ _ _ _ hal.size h1 h2 (h3.below hal)).mono ?_
  rintro e w1 ⟨rfl, b1, s1, r1⟩
  have hR1 : OBox w1 w.heap.size oz := hR0.below b1 hR0.lt
  have hsz : (w.alloc (.cells #[.int .i64 0, .int .i64 0, .int .i64 0, .int .i64 0, .string ⟨#[]⟩] 31)).heap.size = w.heap.size + 1 := by simp
  have b1' := hal.trans (b1.mono hal.size)
  have hs1 := b1.size
  rw [hsz] at r1 s1 hs1
  clear b1 hR0
  go_wp2_with fail
  refine (l71Fits_any w.heap.size (w.heap.size + 1) 0 w1 r1 (by omega)).mono ?_
  rintro e w2 ⟨a2, cap2, rs, o, ho, rfl, l2, b2, r2⟩
  have hR2 : OBox w2 w.heap.size oz := hR1.but b2 hR1.lt (by omega)
  have f2 : Below w.heap.size w w2 := b1'.trans (b2.below (by omega) (by omega))
  obtain ⟨g, off, rfl, hg1, hg2, _⟩ := id l2
  have gne : g ≠ w.heap.size := by omega
  have hB : Below w.heap.size w2 (given w2 w.heap.size o) := by
    unfold given
    exact (((((Below.refl _ _).setCell (p := ⟨w.heap.size, 0, none⟩) (Nat.le_refl _) _).setCell (p := ⟨w.heap.size, 1, none⟩) (Nat.le_refl _) _).setCell (p := ⟨w.heap.size, 2, none⟩) (Nat.le_refl _) _).setCell (p := ⟨w.heap.size, 3, none⟩) (Nat.le_refl _) _).setCell (p := ⟨w.heap.size, 4, none⟩) (Nat.le_refl _) _
  have HF : Hid (DrewDo w (.returned (.tuple #[.slice (some ⟨g, off, none⟩) rs.length cap2, .agg #[.int .i64 o.kind, .int .i64 o.id, .int .i64 o.up, .int .i64 o.at_, .string o.txt]])) (given w2 w.heap.size o)) := by
    refine ⟨_, cap2, rs, o, ho, rfl, ?_, f2.trans hB⟩
    unfold given
    exact (((((l2.base b1'.size).set gne).set gne).set gne).set gne).set gne
  obtain ⟨d0, d1, d2, d3, d4⟩ := hR2.cells
  have y0 := hR2.frozen 0
  have y1 := hR2.frozen 1
  have y2 := hR2.frozen 2
  have y3 := hR2.frozen 3
  have y4 := hR2.frozen 4
  clear l2 b2 r2 f2 hB hR2 hR1 b1' hsz hal h3
  go_wp2
  exact bodyPost_ret (by simp [results, Tryd.results37, go_sem, d0, d1, d2, d3, d4]) rfl HF.out
end Go.Proofs.YtmenlcdilogmjaaDoor
