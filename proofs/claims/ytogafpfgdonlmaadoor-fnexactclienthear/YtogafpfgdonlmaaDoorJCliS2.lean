/-
  Contract of the model's l21Copy. Conditions: as each theorem says.
-/
import Derived.Test.YtogafpfgdonlmaaDoorJCliA
namespace Go.Proofs.YtogafpfgdonlmaaDoor
open Go.ChangeShapes Go.WideShapes Go.ChangeAt Go.RowKit Go.Joins

set_option maxRecDepth 100000 in
set_option maxHeartbeats 4000000 in
theorem l21Copy_any (c : CliD) (bb bo bc wb wo wc : Nat) (w : World) (h : CliAt w.heap.size w c (some ⟨bb, bo, none⟩) bc (some ⟨wb, wo, none⟩) wc) (hbb : bb < w.heap.size) (hwb : wb < w.heap.size) (hl1 : c.base.length ≤ 1048576) (hl2 : c.wait.length ≤ 1048576) :
    Calls Tryd.prog 23 #[.agg #[.int .i64 c.who, .int .i64 c.seen, .slice (some ⟨bb, bo, none⟩) c.base.length bc, .slice (some ⟨wb, wo, none⟩) c.wait.length wc, .int .i64 c.done, .int .i64 c.made]] w (RetCli c true w) := by
  obtain ⟨i0, hi, hz0, hz1, hz2⟩ := info_parts infoRow
  obtain ⟨j0, hj, jz0, jz1, jz2⟩ := info_parts infoEnt
  have hb0 : Below w.heap.size w ((w.alloc (.cells #[.int .i64 c.who, .int .i64 c.seen, .slice (some ⟨bb, bo, none⟩) c.base.length bc, .slice (some ⟨wb, wo, none⟩) c.wait.length wc, .int .i64 c.done, .int .i64 c.made] 33)).alloc (.cells #[.int .i64 0, .int .i64 0, .slice none 0 0, .slice none 0 0, .int .i64 0, .int .i64 0] 33)) := ((Below.refl _ _).alloc (Nat.le_refl _) _).alloc (by simp) _
  have X0 := (Bx.new w 33 #[.int .i64 c.who, .int .i64 c.seen, .slice (some ⟨bb, bo, none⟩) c.base.length bc, .slice (some ⟨wb, wo, none⟩) c.wait.length wc, .int .i64 c.done, .int .i64 c.made]).alloc (.cells #[.int .i64 0, .int .i64 0, .slice none 0 0, .slice none 0 0, .int .i64 0, .int .i64 0] 33)
  have Y0 := Bx.new (w.alloc (.cells #[.int .i64 c.who, .int .i64 c.seen, .slice (some ⟨bb, bo, none⟩) c.base.length bc, .slice (some ⟨wb, wo, none⟩) c.wait.length wc, .int .i64 c.done, .int .i64 c.made] 33)) 33 #[.int .i64 0, .int .i64 0, .slice none 0 0, .slice none 0 0, .int .i64 0, .int .i64 0]
  have hs0 : (w.alloc (.cells #[.int .i64 c.who, .int .i64 c.seen, .slice (some ⟨bb, bo, none⟩) c.base.length bc, .slice (some ⟨wb, wo, none⟩) c.wait.length wc, .int .i64 c.done, .int .i64 c.made] 33)).heap.size = w.heap.size + 1 := by simp
  rw [hs0] at Y0
  have h0 := h.below hb0
  go_enter Tryd.func23, Tryd.ntmps23
  go_upto_region 1 with fail
  generalize ((w.alloc (.cells #[.int .i64 c.who, .int .i64 c.seen, .slice (some ⟨bb, bo, none⟩) c.base.length bc, .slice (some ⟨wb, wo, none⟩) c.wait.length wc, .int .i64 c.done, .int .i64 c.made] 33)).alloc (.cells #[.int .i64 0, .int .i64 0, .slice none 0 0, .slice none 0 0, .int .i64 0, .int .i64 0] 33)) = w1 at *
  clear hs0
  have hx0 := X0.lt
  have hy0 := Y0.lt
  obtain ⟨x0, x1, x2, x3, x4, x5⟩ := X0.cli
  have hown0 := own_empty3 w1 82
  have hnews0 := RowsAt.news (s := 0) (n := c.base.length) h0.rows (by omega)
  rw [Nat.zero_mul, Nat.add_zero, List.drop_zero, List.take_length] at hnews0
  have HNW := Lib.hid hnews0
  clear hnews0
  have hbb1 := Nat.lt_of_lt_of_le hbb hb0.size
  go_wp2_with (at_builtin; refine wpList_append_own _ rfl _ _ 30 rfl w1.heap.size 82 i0 (.agg #[.int .i64 0, .int .i64 0, .string ⟨#[]⟩]) 3 32 Tryd.underlying30 hi hz0 hz1 hz2 rfl (by decide) _ _ _ rfl hown0 ⟨bb, bo, none⟩ c.base.length bc (cellsL c.base) rfl ?c0 ?c1 ?c2 ?c3 ?c4 ?c5 ?_)
  case c0 => exact cellsL_len c.base
  case c1 => intro j u hu; first | (rw [World.cell?_alloc_lt _ _ _ (by rw [addr_add]; exact hbb1)]; exact HNW.out j u hu) | (have q := HNW.out j u hu; rw [addr_add] at q; exact q)
  case c2 => exact cellsL_plain _
  case c3 => unfold maxLen; omega
  case c4 => omega
  first | (case c5 => simp) | skip
  intro v3 w3 own3 grow3 hnn
  have hb3 : Below w1.heap.size w1 w3 := ((Below.refl _ w1).alloc (Nat.le_refl _) (.cells #[] 82)).grown grow3 (by simp) (own_block hown0)
  have own3' : w3.ownsRow w1.heap.size 82 3 v3 c.base.length (cellsL c.base) := by simpa using own3
  obtain ⟨a', c', rfl, _, _⟩ := own_valE own3'
  have hne : a' ≠ none := fun e => by
    subst e
    rcases own3'.2 with ⟨q, _⟩ | ⟨g', cap', cur, hv, _⟩
    · exact hnn q
    · cases hv
  obtain ⟨g, rfl⟩ := own_some own3' hne
  have G3 := ownR_of own3'
  have X3 := X0.below hb3 X0.lt
  have Y3 := Y0.below hb3 Y0.lt
  have L3 := hb0.trans (hb3.mono hb0.size)
  have hgn : w.heap.size + 1 < g := Nat.lt_of_lt_of_le Y0.lt G3.lo
  clear x0 x1 x2 x3 x4 x5 X0 Y0 own3 own3' grow3 hnn hown0 HNW hi hz0 hz1 hz2 hbb1 hne h0
  obtain ⟨x0, x1, x2, x3, x4, x5⟩ := X3.cli
  have f2 := X3.frozen 2
  have X4 : Bx (w3.setCell ⟨w.heap.size, 2, none⟩ (.slice (some ⟨g, 0, none⟩) c.base.length c')) w.heap.size 33 #[.int .i64 c.who, .int .i64 c.seen, .slice (some ⟨g, 0, none⟩) c.base.length c', .slice (some ⟨wb, wo, none⟩) c.wait.length wc, .int .i64 c.done, .int .i64 c.made] := X3.put 2 _
  have Y4 := Y3.other (j := 2) (show w.heap.size + 1 ≠ w.heap.size by omega) (.slice (some ⟨g, 0, none⟩) c.base.length c')
  have G4 := G3.put (B := w.heap.size) (j := 2) (by omega) (.slice (some ⟨g, 0, none⟩) c.base.length c')
  have L4 := L3.setCell (p := ⟨w.heap.size, 2, none⟩) (Nat.le_refl _) (.slice (some ⟨g, 0, none⟩) c.base.length c')
  clear X3 Y3 G3 L3
  go_upto_region 2 with fail
  generalize w3.setCell ⟨w.heap.size, 2, none⟩ (.slice (some ⟨g, 0, none⟩) c.base.length c') = w4 at *
  clear x0 x1 x2 x3 x4 x5 f2
  obtain ⟨x0, x1, x2, x3, x4, x5⟩ := X4.cli
  have h4 := h.below L4
  have hown0 := own_emptyE w4 55
  have HNW := Lib.hid h4.ents.news
  have hwb1 := Nat.lt_of_lt_of_le hwb L4.size
  have hx4 := X4.lt
  have hy4 := Y4.lt
  have hg4 := G4.hi
  go_wp2_with (at_builtin; refine wpList_append_own _ rfl _ _ 31 rfl w4.heap.size 55 j0 (.agg #[.int .i64 0, .int .i64 0, .int .i64 0, .int .i64 0, .int .i64 0, .int .i64 0, .string ⟨#[]⟩]) 7 64 Tryd.underlying31 hj jz0 jz1 jz2 rfl (by decide) _ _ _ rfl hown0 ⟨wb, wo, none⟩ c.wait.length wc (cellsE c.wait) rfl ?c0 ?c1 ?c2 ?c3 ?c4 ?c5 ?_)
  case c0 => rw [cellsE_len]
  case c1 => intro j u hu; first | (rw [World.cell?_alloc_lt _ _ _ (by rw [addr_add]; exact hwb1)]; exact HNW.out j u hu) | (have q := HNW.out j u hu; rw [addr_add] at q; exact q)
  case c2 => exact cellsE_plain _
  case c3 => unfold maxLen; omega
  case c4 => omega
  first | (case c5 => simp) | skip
  intro v5 w5 own5 grow5 hnn
  have hb5 : Below w4.heap.size w4 w5 := ((Below.refl _ w4).alloc (Nat.le_refl _) (.cells #[] 55)).grown grow5 (by simp) (own_blockE hown0)
  have own5' : w5.ownsRow w4.heap.size 55 7 v5 c.wait.length (cellsE c.wait) := by simpa using own5
  obtain ⟨a', d', rfl, _, _⟩ := own_valE own5'
  have hne : a' ≠ none := fun e => by
    subst e
    rcases own5'.2 with ⟨q, _⟩ | ⟨g', cap', cur, hv, _⟩
    · exact hnn q
    · cases hv
  obtain ⟨r, rfl⟩ := own_some own5' hne
  have R5 := ownG_of own5'
  have G5 := G4.below hb5 (Nat.le_refl _)
  have X5 := X4.below hb5 X4.lt
  have Y5 := Y4.below hb5 Y4.lt
  have L5 := L4.trans (hb5.mono L4.size)
  have hrn : w.heap.size + 1 < r := Nat.lt_of_lt_of_le Y4.lt R5.lo
  clear x0 x1 x2 x3 x4 x5 X4 Y4 G4 own5 own5' grow5 hnn hown0 HNW hj jz0 jz1 jz2 hwb1 hne h4
  obtain ⟨x0, x1, x2, x3, x4, x5⟩ := X5.cli
  have f3 := X5.frozen 3
  have X6 : Bx (w5.setCell ⟨w.heap.size, 3, none⟩ (.slice (some ⟨r, 0, none⟩) c.wait.length d')) w.heap.size 33 #[.int .i64 c.who, .int .i64 c.seen, .slice (some ⟨g, 0, none⟩) c.base.length c', .slice (some ⟨r, 0, none⟩) c.wait.length d', .int .i64 c.done, .int .i64 c.made] := X5.put 3 _
  have Y6 := Y5.other (j := 3) (show w.heap.size + 1 ≠ w.heap.size by omega) (.slice (some ⟨r, 0, none⟩) c.wait.length d')
  have G6 := G5.put (B := w.heap.size) (j := 3) (by omega) (.slice (some ⟨r, 0, none⟩) c.wait.length d')
  have R6 := R5.put (B := w.heap.size) (j := 3) (by omega) (.slice (some ⟨r, 0, none⟩) c.wait.length d')
  have L6 := L5.setCell (p := ⟨w.heap.size, 3, none⟩) (Nat.le_refl _) (.slice (some ⟨r, 0, none⟩) c.wait.length d')
  clear X5 Y5 G5 R5 L5
  go_upto_region 3 with fail
  generalize w5.setCell ⟨w.heap.size, 3, none⟩ (.slice (some ⟨r, 0, none⟩) c.wait.length d') = w6 at *
  clear x0 x1 x2 x3 x4 x5 f3
  obtain ⟨x0, x1, x2, x3, x4, x5⟩ := X6.cli
  obtain ⟨d0, d1, d2, d3, d4, d5⟩ := Y6.cli
  obtain ⟨y0, y1, y2, y3, y4, y5⟩ := Y6.cliF
  have C6 : CliGot (w.heap.size + 1) w6 c (some ⟨g, 0, none⟩) c' (some ⟨r, 0, none⟩) d' := ⟨(G6.mono (by omega)).got, (R6.mono (by omega)).got, G6.len, G6.cap, R6.len, R6.cap⟩
  have hg6 := G6.hi
  have hr6 := R6.hi
  clear X6 Y6 G6 R6
  go_wp2
  exact bodyPost_ret (v := .agg #[.int .i64 c.who, .int .i64 c.seen, .slice (some ⟨g, 0, none⟩) c.base.length c', .slice (some ⟨r, 0, none⟩) c.wait.length d', .int .i64 c.done, .int .i64 c.made]) (by simp [results, Tryd.results23, go_sem, d0, d1, d2, d3, d4, d5]) rfl (retCli_put C6 (by omega) (by omega) (by omega) (by omega) (by omega) hg6 (by omega) hr6 L6 _ _ _ _ _ _)
end Go.Proofs.YtogafpfgdonlmaaDoor
