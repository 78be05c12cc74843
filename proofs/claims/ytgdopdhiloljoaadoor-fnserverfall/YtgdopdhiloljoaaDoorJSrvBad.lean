/-
  The model's ServerFall of what is not valid gives the zero value. Conditions: as each theorem says.
-/
import Derived.Test.YtgdopdhiloljoaaDoorGT
namespace Go.Proofs.YtgdopdhiloljoaaDoor
open Go.ChangeShapes Go.WideShapes Go.ChangeAt Go.RowKit Go.Joins

set_option maxRecDepth 100000 in
set_option maxHeartbeats 2000000 in
theorem specServerFall_bad (b off cap : Nat) (es : List EntD) (sf : Int) (up : Bool) (left : Int) (w : World) (h : EntsAt w.heap.size w (some ⟨b, off, none⟩) es) (hf : EntsFit es) (hcap : es.length ≤ cap) (hcm : cap ≤ maxLen) (hno : fallOk ⟨es, sf, up⟩ left = false) :
    Calls Tryd.prog 33 #[.agg #[.slice (some ⟨b, off, none⟩) es.length cap, .int .i64 sf, .bool up], .int .i64 left] w (RetBelow (.agg #[.slice none 0 0, .int .i64 0, .bool false]) w) := by
  have HOK : Hid (fallOk ⟨es, sf, up⟩ left = (srvB ⟨es, sf, up⟩ && inB left 0 40)) := rfl
  have hb0 : Below w.heap.size w ((w.alloc (.cells #[.slice (some ⟨b, off, none⟩) es.length cap, .int .i64 sf, .bool up] 35)).alloc (.cells #[.slice none 0 0, .int .i64 0, .bool false] 35)) := ((Below.refl _ _).alloc (Nat.le_refl _) _).alloc (by simp) _
  have X0 := (Bx.new w 35 #[.slice (some ⟨b, off, none⟩) es.length cap, .int .i64 sf, .bool up]).alloc (.cells #[.slice none 0 0, .int .i64 0, .bool false] 35)
  have Y0 := Bx.new (w.alloc (.cells #[.slice (some ⟨b, off, none⟩) es.length cap, .int .i64 sf, .bool up] 35)) 35 #[.slice none 0 0, .int .i64 0, .bool false]
  have hs0 : (w.alloc (.cells #[.slice (some ⟨b, off, none⟩) es.length cap, .int .i64 sf, .bool up] 35)).heap.size = w.heap.size + 1 := by simp
  rw [hs0] at Y0
  have h0 := h.below hb0
  go_enter Tryd.func33, Tryd.ntmps33
  go_upto_region 1 with fail
  generalize ((w.alloc (.cells #[.slice (some ⟨b, off, none⟩) es.length cap, .int .i64 sf, .bool up] 35)).alloc (.cells #[.slice none 0 0, .int .i64 0, .bool false] 35)) = w1 at *
  clear hs0
  have hx0 := X0.lt
  have hy0 := Y0.lt
  obtain ⟨x0, x1, x2⟩ := X0.srv
  go_wp2_with fail
  refine (specServerOk_any w.heap.size _ cap es sf up w1 hb0.size h0 hf hcap hcm).mono ?_
  rintro _ w2 ⟨rfl, b2⟩
  have X2 := X0.below b2 X0.lt
  have Y2 := Y0.below b2 Y0.lt
  have L2 := hb0.trans (b2.mono hb0.size)
  have hy2 := Y2.lt
  clear X0 Y0 b2 x0 x1 x2
  generalize hsb : srvB ⟨es, sf, up⟩ = sb at *
  have HSB := Lib.hid hsb
  clear hsb
  cases sb
  · skip
    have d0 := Y2.cell 0 rfl
    have d1 := Y2.cell 1 rfl
    have d2 := Y2.cell 2 rfl
    have y0 := Y2.frozen 0
    have y1 := Y2.frozen 1
    have y2 := Y2.frozen 2
    clear X2 Y2
    go_wp2
    exact bodyPost_ret (v := .agg #[.slice none 0 0, .int .i64 0, .bool false]) (by simp [results, Tryd.results33, go_sem, d0, d1, d2]) rfl ⟨rfl, below_given3 L2 (by omega) _ _ _⟩
  · go_wp2_with fail
    refine (l6In_any _ _ _ _).mono ?_
    rintro _ _ ⟨rfl, rfl⟩
    have hin : inB left 0 40 = false := by
      have q := HOK.out
      rw [hno] at q
      simpa using q.symm
    rw [hin]
    have d0 := Y2.cell 0 rfl
    have d1 := Y2.cell 1 rfl
    have d2 := Y2.cell 2 rfl
    have y0 := Y2.frozen 0
    have y1 := Y2.frozen 1
    have y2 := Y2.frozen 2
    clear X2 Y2
    go_wp2
    exact bodyPost_ret (v := .agg #[.slice none 0 0, .int .i64 0, .bool false]) (by simp [results, Tryd.results33, go_sem, d0, d1, d2]) rfl ⟨rfl, below_given3 L2 (by omega) _ _ _⟩
end Go.Proofs.YtgdopdhiloljoaaDoor
