/-
  Joined texts, each with its own head: what it holds, and its conditions.
-/
import Derived.Test.YtogafpfgdonlmaaDoorGM
import Derived.Test.YtogafpfgdonlmaaDoorGA
import Derived.Test.YtogafpfgdonlmaaDoorGE

/-
  An argument that is an entry or a slice of entries, opened; the laws' own helpers szEntry, szEntryS, toEntry, toEntryS, eqEntry, eqEntryS. Conditions: as each theorem says.
-/
namespace Go.Proofs.YtogafpfgdonlmaaDoor
open Go.ChangeShapes Go.WideShapes Go.ChangeAt Go.RowKit Go.Joins Go.Deep

theorem cellsEnt : Tryd.prog.cellsOf 69 = 7 := by kernel_rfl
set_option maxRecDepth 100000 in
theorem ent_cells {H : Type} {enc : TypeId × Value → H} {W : World} {spare : Nat → Bool} {held : Bool} {n : Nat} {cs : List Value} {y : DataW H × List MemPlace} (hl : cs.length = 7)
    (h : DataW.trod enc Tryd.prog W 0 spare held n 69 cs = some y) : ∃ e : EntD, cs = [.int .i64 e.who, .int .i64 e.seq, .int .i64 e.op.kind, .int .i64 e.op.id, .int .i64 e.op.up, .int .i64 e.op.at_, .string e.op.txt] ∧ EFit e := by
  obtain ⟨y0, y1, y2, m, _, _, h0, h1, h2⟩ := Go.Deep.trod_struct3 Tryd.underlying69 h
  match cs, hl with
  | [c0, c1, c2, c3, c4, c5, c6], _ =>
    simp only [cellsInt1, cellsOp, List.drop_zero, List.drop_succ_cons, List.take_succ_cons, List.take_zero] at h0 h1 h2
    obtain ⟨i, e0, _, w0⟩ := DataW.trod_int Tryd.underlying3 h0
    obtain ⟨d, e1, _, w1⟩ := DataW.trod_int Tryd.underlying3 h1
    obtain ⟨z0, z1, z2, z3, z4, m', g0, g1, g2, g3, g4⟩ := trod_struct5 Tryd.underlying27 h2
    simp only [cellsInt1, cellsStr1, List.drop_zero, List.drop_succ_cons, List.take_succ_cons, List.take_zero] at g0 g1 g2 g3 g4
    obtain ⟨k, f0, _, u0⟩ := DataW.trod_int Tryd.underlying3 g0
    obtain ⟨id, f1, _, u1⟩ := DataW.trod_int Tryd.underlying3 g1
    obtain ⟨up, f2, _, u2⟩ := DataW.trod_int Tryd.underlying3 g2
    obtain ⟨at', f3, _, u3⟩ := DataW.trod_int Tryd.underlying3 g3
    obtain ⟨t, f4, _, u4⟩ := DataW.trod_string Tryd.underlying9 g4
    simp only [List.cons.injEq, and_true] at e0 e1 f0 f1 f2 f3 f4
    subst e0 e1 f0 f1 f2 f3 f4
    exact ⟨⟨i, d, ⟨k, id, up, at', t⟩⟩, rfl, i64_of_wf w0, i64_of_wf w1, i64_of_wf u1, i64_of_wf u2, i64_of_wf u3, u4⟩
theorem array7 {α : Type} {cs : Array α} (h : cs.size = 7) : cs.toList.length = 7 := by simpa using h
set_option maxRecDepth 100000 in
theorem ent_of {H : Type} {enc : TypeId × Value → H} {W : World} {r : Reach} {b0 : Nat} {spare : Nat → Bool} {held : Bool} {v : Value} {dd : DataW H} {p : List MemPlace} (hv : Value.okWide Tryd.prog W r b0 69 v) (h : DataW.Trod enc Tryd.prog W 0 spare held 69 v dd p) :
    ∃ e : EntD, v = .agg #[.int .i64 e.who, .int .i64 e.seq, .int .i64 e.op.kind, .int .i64 e.op.id, .int .i64 e.op.up, .int .i64 e.op.at_, .string e.op.txt] ∧ EFit e := by
  obtain ⟨cs, rfl, hsz⟩ := okWide_struct Tryd.underlying69 hv
  obtain ⟨fuel, hf⟩ := h
  obtain ⟨e, he, hfit⟩ := ent_cells (array7 (hsz.trans cellsEnt)) (by simpa [Value.cells] using hf)
  refine ⟨e, ?_, hfit⟩
  obtain ⟨l⟩ := cs
  simp only at he
  rw [he]
set_option maxRecDepth 100000 in
theorem ents_of {H : Type} {enc : TypeId × Value → H} {W : World} {spare : Nat → Bool} {held : Bool} {a : Option Addr} {len cap : Nat} {d : DataW H} {p : List MemPlace}
    (h : DataW.Trod enc Tryd.prog W 0 spare held 23 (.slice a len cap) d p) : ∃ es : List EntD, es.length = len ∧ len ≤ cap ∧ cap ≤ maxLen ∧ EntsAt W.heap.size W a es ∧ ∀ i, i < es.length → EFit (eat es i) := by
  obtain ⟨fuel, hf⟩ := h
  rcases Go.Deep.open_slice Tryd.underlying23 hf with ⟨hcs, _⟩ | ⟨x, l, c, m, n, D, Pl, hcs, _, hl, hm, hmm, _, hi⟩
  · simp [Value.cells] at hcs
    obtain ⟨rfl, rfl, rfl⟩ := hcs
    exact ⟨[], rfl, Nat.le_refl _, Nat.zero_le _, .inl rfl, fun i hi => by simp at hi⟩
  · simp [Value.cells] at hcs
    obtain ⟨rfl, rfl, rfl⟩ := hcs
    have hlm : len ≤ m := by rw [hmm]; split <;> omega
    rw [cellsEnt] at hi
    by_cases h0 : len = 0
    · subst h0
      exact ⟨[], rfl, hl, hm, .inl rfl, fun i hi => by simp at hi⟩
    obtain ⟨ab, aoff, spot⟩ := x
    have hspot : spot = none := by
      obtain ⟨cs', hc, _⟩ := hi 0 (by omega)
      obtain ⟨_, hcl, hat⟩ := World.cells?_some hc
      have h1 := hat 0 (by decide)
      rw [List.getElem?_eq_getElem (by omega)] at h1
      simpa [Addr.add] using World.cell?_spot h1
    subst hspot
    have H : ∀ i, i < len → ∃ e : EntD, EntAt W ab (aoff + i * 7) e ∧ EFit e := fun i hil => by
      obtain ⟨cs', hc, ht⟩ := hi i (by omega)
      rw [addr_add] at hc
      obtain ⟨_, hcl, hat⟩ := World.cells?_some hc
      obtain ⟨e, rfl, hfit⟩ := ent_cells hcl ht
      refine ⟨e, fun j hj => ?_, hfit⟩
      have := hat j hj
      rw [addr_add] at this
      rw [this]
      match j, hj with
      | 0, _ => rfl
      | 1, _ => rfl
      | 2, _ => rfl
      | 3, _ => rfl
      | 4, _ => rfl
      | 5, _ => rfl
      | 6, _ => rfl
    have hab : ab < W.heap.size := by
      obtain ⟨r, hc, _⟩ := H 0 (by omega)
      have hc := hc 0 (by decide)
      rcases Nat.lt_or_ge ab W.heap.size with q | q
      · exact q
      · have hn : W.heap[ab]? = none := by simp; omega
        simp [World.cell?, hn] at hc
    let F : Nat → EntD := fun i => if h : i < len then Classical.choose (H i h) else ez
    have hF : ∀ i, i < len → EntAt W ab (aoff + i * 7) (F i) ∧ EFit (F i) := fun i hil => by
      have := Classical.choose_spec (H i hil)
      simp only [F, dif_pos hil]; exact this
    have hat : ∀ i, i < len → eat ((List.range len).map F) i = F i := fun i hi => by simp [eat, hi]
    refine ⟨(List.range len).map F, by simp, hl, hm, .inr ⟨ab, aoff, rfl, hab, fun i hil => ?_⟩, fun i hil => ?_⟩
    · simp only [List.length_map, List.length_range] at hil
      rw [hat i hil]; exact (hF i hil).1
    · simp only [List.length_map, List.length_range] at hil
      rw [hat i hil]; exact (hF i hil).2

/-! ### szEntry, szEntryS -/
theorem szOp_ex (o : OpD) (left : Int) (w : World) (hs : o.txt.size ≤ maxLen) (h1 : left ≤ 1048576) (h0 : 0 ≤ left) :
    Calls Tryd.prog 6 #[.agg #[.int .i64 o.kind, .int .i64 o.id, .int .i64 o.up, .int .i64 o.at_, .string o.txt], .int .i64 left] w fun e w' => ∃ z : Int, z ≤ 1048576 ∧ -1 ≤ z ∧ e = .returned (.int .i64 z) ∧ Below w.heap.size w w' := by
  unfold maxLen at hs
  by_cases h : left - (o.txt.size : Int) < 0
  · go_enter Tryd.func6, Tryd.ntmps6
    go_wp2
    go_ret
    exact ⟨-1, by omega, by omega, rfl, (Below.refl _ _).alloc (Nat.le_refl _) _⟩
  · have h' : 0 ≤ left - (o.txt.size : Int) := by omega
    clear h
    go_enter Tryd.func6, Tryd.ntmps6
    go_wp2
    go_ret
    exact ⟨_, by omega, by omega, rfl, (Below.refl _ _).alloc (Nat.le_refl _) _⟩
def SzOut (w : World) (e : Ending) (w' : World) : Prop := ∃ z : Int, z ≤ 1048576 ∧ e = .returned (.int .i64 z) ∧ Below w.heap.size w w'
theorem szEntry_any (e : EntD) (left : Int) (w : World) (hs : e.op.txt.size ≤ maxLen) (h1 : left ≤ 1048576) (h0 : 0 ≤ left) :
    Calls Tryd.prog 32 #[.agg #[.int .i64 e.who, .int .i64 e.seq, .int .i64 e.op.kind, .int .i64 e.op.id, .int .i64 e.op.up, .int .i64 e.op.at_, .string e.op.txt], .int .i64 left] w (SzOut w) := by
  have hb : Below w.heap.size w (w.alloc (.cells #[.int .i64 e.who, .int .i64 e.seq, .int .i64 e.op.kind, .int .i64 e.op.id, .int .i64 e.op.up, .int .i64 e.op.at_, .string e.op.txt] 69)) := (Below.refl _ _).alloc (Nat.le_refl _) _
  go_enter Tryd.func32, Tryd.ntmps32
  go_wp2_with fail
  refine (szOp_ex e.op _ _ hs h1 h0).mono ?_
  rintro _ w1 ⟨z, z1, z0, rfl, hb1⟩
  have hb2 := hb.trans (hb1.mono hb.size)
  by_cases hz : z < 0
  · go_wp2
    go_ret
    exact ⟨-1, by omega, rfl, hb2⟩
  · go_wp2
    go_ret
    exact ⟨z, z1, rfl, hb2⟩
def SizedE (es : List EntD) (w : World) (e : Ending) (w' : World) : Prop := ∃ z : Int, e = .returned (.int .i64 z) ∧ (z < 0 ∨ (0 ≤ z ∧ z ≤ 1048576 ∧ es.length ≤ 1048576)) ∧ Below w.heap.size w w'
theorem szEntryS_any (B : Nat) (a : Option Addr) (cap : Nat) (es : List EntD) (w : World) (hB : B ≤ w.heap.size) (h : EntsAt B w a es) (hf : ∀ i, i < es.length → EFit (eat es i)) (hl : es.length ≤ maxLen) :
    Calls Tryd.prog 14 #[.slice a es.length cap, .int .i64 1048576] w (SizedE es w) := by
  unfold maxLen at hl
  by_cases h0 : (1048576 : Int) - (es.length : Int) < 0
  · go_enter Tryd.func14, Tryd.ntmps14
    go_wp2
    go_ret
    exact ⟨-1, rfl, .inl (by decide), Below.refl _ _⟩
  · have hlen : es.length ≤ 1048576 := by omega
    go_enter Tryd.func14, Tryd.ntmps14
    go_wp2_with fail
    go_loopw [1, 5] (fun l t wr => ∃ (k : Nat) (z : Int), k ≤ es.length ∧ t = .int .i64 k ∧ l = .int .i64 z ∧ 0 ≤ z ∧ z ≤ 1048576 ∧ Below w.heap.size w wr) (fun _ t _ => es.length - (intOf t).toNat)
    case atStart => exact ⟨0, _, Nat.zero_le _, rfl, rfl, by omega, by omega, Below.refl _ _⟩
    case round =>
      obtain ⟨k, z, hk, rfl, rfl, z0, z1, hb⟩ := hrel
      have hr := h.below (hb.mono hB)
      by_cases hlt : k < es.length
      · obtain ⟨b, off, rfl, hbB, c0, c1, c2, c3, c4, c5, c6⟩ := hr.at_ hlt
        have f3 := (hf k hlt).op.txt
        have i1 : (k : Int) < (es.length : Int) := by omega
        go_wp2_with fail
        refine (szEntry_any (eat es k) _ _ f3 z1 z0).mono ?_
        rintro _ w1 ⟨z', hz1, rfl, hb1⟩
        have hb2 := hb.trans (hb1.mono hb.size)
        by_cases hz : z' < 0
        · go_wp2
          go_ret
          exact ⟨-1, rfl, .inl (by decide), hb2⟩
        · have hz0 : 0 ≤ z' := by omega
          go_wp2
          go_roundw
          case rel => exact ⟨k + 1, z', by omega, by go_num, rfl, hz0, hz1, hb2⟩
          case measure => simp [intOf]; omega
      · go_wp2
        go_ret
        exact ⟨z, rfl, .inr ⟨z0, z1, hlen⟩, hb⟩

end Go.Proofs.YtogafpfgdonlmaaDoor
/-
  The laws' own helper toEntry. Conditions: as each theorem says.
-/
namespace Go.Proofs.YtogafpfgdonlmaaDoor
open Go.ChangeShapes Go.WideShapes Go.ChangeAt Go.RowKit Go.Joins Go.Deep

/-! ### toEntry, toEntryS -/
/-- Block B is a variable's box that holds an entry. -/
def EBox (w : World) (B : Nat) (e : EntD) : Prop := w.heap[B]? = some (.cells #[.int .i64 e.who, .int .i64 e.seq, .int .i64 e.op.kind, .int .i64 e.op.id, .int .i64 e.op.up, .int .i64 e.op.at_, .string e.op.txt] 55 (0, 0))
theorem EBox.lt {w : World} {B : Nat} {e : EntD} (h : EBox w B e) : B < w.heap.size := (Array.getElem?_eq_some_iff.1 h).1
theorem EBox.cells {w : World} {B : Nat} {e : EntD} (h : EBox w B e) : w.cell? ⟨B, 0, none⟩ = some (.int .i64 e.who) ∧ w.cell? ⟨B, 1, none⟩ = some (.int .i64 e.seq) ∧ w.cell? ⟨B, 2, none⟩ = some (.int .i64 e.op.kind) ∧ w.cell? ⟨B, 3, none⟩ = some (.int .i64 e.op.id) ∧ w.cell? ⟨B, 4, none⟩ = some (.int .i64 e.op.up) ∧ w.cell? ⟨B, 5, none⟩ = some (.int .i64 e.op.at_) ∧ w.cell? ⟨B, 6, none⟩ = some (.string e.op.txt) := by
  refine ⟨?_, ?_, ?_, ?_, ?_, ?_, ?_⟩ <;> simp [World.cell?, show w.heap[B]? = _ from h]
theorem EBox.frozen {w : World} {B : Nat} {e : EntD} (h : EBox w B e) (k : Nat) : w.frozen? ⟨B, k, none⟩ = false := by simp [World.frozen?, show w.heap[B]? = _ from h]
theorem EBox.below {w w' : World} {B n : Nat} {e : EntD} (h : EBox w B e) (hb : Below n w w') (hn : B < n) : EBox w' B e := (hb.block B hn).trans h
theorem EBox.new (w : World) (e : EntD) : EBox (w.alloc (.cells #[.int .i64 e.who, .int .i64 e.seq, .int .i64 e.op.kind, .int .i64 e.op.id, .int .i64 e.op.up, .int .i64 e.op.at_, .string e.op.txt] 55)) w.heap.size e := heap_alloc_new _ _
def ez0 : EntD := ⟨0, 0, ⟨0, 0, 0, 0, ⟨#[]⟩⟩⟩
set_option maxHeartbeats 1000000 in
theorem toEntry_any (e : EntD) (w : World) :
    Calls Tryd.prog 36 #[.agg #[.int .i64 e.who, .int .i64 e.seq, .int .i64 e.op.kind, .int .i64 e.op.id, .int .i64 e.op.up, .int .i64 e.op.at_, .string e.op.txt]] w (RetBelow (.agg #[.int .i64 e.who, .int .i64 e.seq, .int .i64 e.op.kind, .int .i64 e.op.id, .int .i64 e.op.up, .int .i64 e.op.at_, .string e.op.txt]) w) := by
  have hb0 : Below w.heap.size w (((w.alloc (.cells #[.int .i64 e.who, .int .i64 e.seq, .int .i64 e.op.kind, .int .i64 e.op.id, .int .i64 e.op.up, .int .i64 e.op.at_, .string e.op.txt] 69)).alloc (.cells #[.int .i64 0, .int .i64 0, .int .i64 0, .int .i64 0, .int .i64 0, .int .i64 0, .string ⟨#[]⟩] 55)).alloc (.cells #[.int .i64 e.who, .int .i64 e.seq, .int .i64 0, .int .i64 0, .int .i64 0, .int .i64 0, .string ⟨#[]⟩] 55)) := (((Below.refl _ _).alloc (Nat.le_refl _) _).alloc (by simp) _).alloc (by simp; omega) _
  have hs1 : ((w.alloc (.cells #[.int .i64 e.who, .int .i64 e.seq, .int .i64 e.op.kind, .int .i64 e.op.id, .int .i64 e.op.up, .int .i64 e.op.at_, .string e.op.txt] 69)).alloc (.cells #[.int .i64 0, .int .i64 0, .int .i64 0, .int .i64 0, .int .i64 0, .int .i64 0, .string ⟨#[]⟩] 55)).heap.size = w.heap.size + 1 + 1 := by simp
  have g2 : EBox (((w.alloc (.cells #[.int .i64 e.who, .int .i64 e.seq, .int .i64 e.op.kind, .int .i64 e.op.id, .int .i64 e.op.up, .int .i64 e.op.at_, .string e.op.txt] 69)).alloc (.cells #[.int .i64 0, .int .i64 0, .int .i64 0, .int .i64 0, .int .i64 0, .int .i64 0, .string ⟨#[]⟩] 55)).alloc (.cells #[.int .i64 e.who, .int .i64 e.seq, .int .i64 0, .int .i64 0, .int .i64 0, .int .i64 0, .string ⟨#[]⟩] 55)) (w.heap.size + 1 + 1) ⟨e.who, e.seq, ⟨0, 0, 0, 0, ⟨#[]⟩⟩⟩ := by rw [← hs1]; exact heap_alloc_new _ _
  have g1 : EBox (((w.alloc (.cells #[.int .i64 e.who, .int .i64 e.seq, .int .i64 e.op.kind, .int .i64 e.op.id, .int .i64 e.op.up, .int .i64 e.op.at_, .string e.op.txt] 69)).alloc (.cells #[.int .i64 0, .int .i64 0, .int .i64 0, .int .i64 0, .int .i64 0, .int .i64 0, .string ⟨#[]⟩] 55)).alloc (.cells #[.int .i64 e.who, .int .i64 e.seq, .int .i64 0, .int .i64 0, .int .i64 0, .int .i64 0, .string ⟨#[]⟩] 55)) (w.heap.size + 1) ez0 := by
    have q : EBox ((w.alloc (.cells #[.int .i64 e.who, .int .i64 e.seq, .int .i64 e.op.kind, .int .i64 e.op.id, .int .i64 e.op.up, .int .i64 e.op.at_, .string e.op.txt] 69)).alloc (.cells #[.int .i64 0, .int .i64 0, .int .i64 0, .int .i64 0, .int .i64 0, .int .i64 0, .string ⟨#[]⟩] 55)) (w.heap.size + 1) ez0 := by
      have hs : (w.alloc (.cells #[.int .i64 e.who, .int .i64 e.seq, .int .i64 e.op.kind, .int .i64 e.op.id, .int .i64 e.op.up, .int .i64 e.op.at_, .string e.op.txt] 69)).heap.size = w.heap.size + 1 := by simp
      rw [← hs]; exact heap_alloc_new _ _
    exact q.below ((Below.refl _ _).alloc (Nat.le_refl _) _) q.lt
  clear hs1
  go_enter Tryd.func36, Tryd.ntmps36
  go_wp2_with fail
  refine (toOp_any e.op _).mono ?_
  rintro _ w1 ⟨rfl, hb1⟩
  have r2 := g2.below hb1 g2.lt
  have r1 := g1.below hb1 g1.lt
  have hb2 := hb0.trans (hb1.mono hb0.size)
  clear hb0 hb1 g1 g2
  obtain ⟨a0, a1, a2, a3, a4, a5, a6⟩ := r2.cells
  have z2 := r2.frozen 2
  have z3 := r2.frozen 3
  have z4 := r2.frozen 4
  have z5 := r2.frozen 5
  have z6 := r2.frozen 6
  simp only at a0 a1 a2 a3 a4 a5 a6
  have s2 : EBox (((((w1.setCell ⟨w.heap.size + 1 + 1, 2, none⟩ (.int .i64 e.op.kind)).setCell ⟨w.heap.size + 1 + 1, 3, none⟩ (.int .i64 e.op.id)).setCell ⟨w.heap.size + 1 + 1, 4, none⟩ (.int .i64 e.op.up)).setCell ⟨w.heap.size + 1 + 1, 5, none⟩ (.int .i64 e.op.at_)).setCell ⟨w.heap.size + 1 + 1, 6, none⟩ (.string e.op.txt)) (w.heap.size + 1 + 1) e := by
    unfold EBox
    rw [blk_set (blk_set (blk_set (blk_set (blk_set r2))))]
    simp
  have s1 : EBox (((((w1.setCell ⟨w.heap.size + 1 + 1, 2, none⟩ (.int .i64 e.op.kind)).setCell ⟨w.heap.size + 1 + 1, 3, none⟩ (.int .i64 e.op.id)).setCell ⟨w.heap.size + 1 + 1, 4, none⟩ (.int .i64 e.op.up)).setCell ⟨w.heap.size + 1 + 1, 5, none⟩ (.int .i64 e.op.at_)).setCell ⟨w.heap.size + 1 + 1, 6, none⟩ (.string e.op.txt)) (w.heap.size + 1) ez0 := by
    unfold EBox
    rw [Below.heap_setCell _ _ _ _ (by simp), Below.heap_setCell _ _ _ _ (by simp), Below.heap_setCell _ _ _ _ (by simp), Below.heap_setCell _ _ _ _ (by simp), Below.heap_setCell _ _ _ _ (by simp)]
    exact r1
  have hb3 : Below w.heap.size w (((((w1.setCell ⟨w.heap.size + 1 + 1, 2, none⟩ (.int .i64 e.op.kind)).setCell ⟨w.heap.size + 1 + 1, 3, none⟩ (.int .i64 e.op.id)).setCell ⟨w.heap.size + 1 + 1, 4, none⟩ (.int .i64 e.op.up)).setCell ⟨w.heap.size + 1 + 1, 5, none⟩ (.int .i64 e.op.at_)).setCell ⟨w.heap.size + 1 + 1, 6, none⟩ (.string e.op.txt)) := by
    repeat (first | (with_reducible exact hb2) | refine Below.setCell ?_ (by simp; omega) _)
  go_upto_region 5 with fail
  generalize ((((w1.setCell ⟨w.heap.size + 1 + 1, 2, none⟩ (.int .i64 e.op.kind)).setCell ⟨w.heap.size + 1 + 1, 3, none⟩ (.int .i64 e.op.id)).setCell ⟨w.heap.size + 1 + 1, 4, none⟩ (.int .i64 e.op.up)).setCell ⟨w.heap.size + 1 + 1, 5, none⟩ (.int .i64 e.op.at_)).setCell ⟨w.heap.size + 1 + 1, 6, none⟩ (.string e.op.txt) = w2 at *
  clear a0 a1 a2 a3 a4 a5 a6 z2 z3 z4 z5 z6 r1 r2 hb2
  obtain ⟨a0, a1, a2, a3, a4, a5, a6⟩ := s2.cells
  obtain ⟨d0, d1, d2, d3, d4, d5, d6⟩ := s1.cells
  have y0 := s1.frozen 0
  have y1 := s1.frozen 1
  have y2 := s1.frozen 2
  have y3 := s1.frozen 3
  have y4 := s1.frozen 4
  have y5 := s1.frozen 5
  have y6 := s1.frozen 6
  clear s1 s2
  generalize ez0 = q at *
  go_wp2
  exact bodyPost_ret (v := .agg #[.int .i64 e.who, .int .i64 e.seq, .int .i64 e.op.kind, .int .i64 e.op.id, .int .i64 e.op.up, .int .i64 e.op.at_, .string e.op.txt]) (by simp [results, Tryd.results36, go_sem, d0, d1, d2, d3, d4, d5, d6]) rfl ⟨rfl, by
    repeat (first | (with_reducible exact hb3) | refine Below.setCell ?_ (by simp) _)⟩
end Go.Proofs.YtogafpfgdonlmaaDoor
/-
  The laws' own helpers toEntryS, eqEntry, eqEntryS. Conditions: as each theorem says.
-/
namespace Go.Proofs.YtogafpfgdonlmaaDoor
open Go.ChangeShapes Go.WideShapes Go.ChangeAt Go.RowKit Go.Joins Go.Deep

def RetEnts (es : List EntD) (w : World) (e : Ending) (w' : World) : Prop := ∃ g, e = .returned (.slice (some ⟨g, 0, none⟩) es.length es.length) ∧ w.heap.size ≤ g ∧ OwnEC w' g (es.length * 7) es ∧ Below w.heap.size w w'
set_option maxRecDepth 100000 in
set_option maxHeartbeats 1000000 in
theorem toEntryS_any (B : Nat) (a : Option Addr) (cap : Nat) (es : List EntD) (w : World) (hB : B ≤ w.heap.size) (h : EntsAt B w a es) (hl : es.length ≤ 1048576) :
    Calls Tryd.prog 16 #[.slice a es.length cap] w (RetEnts es w) := by
  obtain ⟨i0, hi, hz0, hz1, hz2⟩ := info_parts infoEnt
  go_enter Tryd.func16, Tryd.ntmps16
  go_wp2_with (refine wpList_make_full _ rfl _ _ 31 rfl w.heap.size 55 i0 (.agg #[.int .i64 0, .int .i64 0, .int .i64 0, .int .i64 0, .int .i64 0, .int .i64 0, .string ⟨#[]⟩]) 7 Tryd.underlying31 hi hz0 hz1 .i64 .i64 _ _ es.length rfl rfl rfl rfl ?b2 ?b3 ?b4 ?_)
  case b2 => rw [hz2]; omega
  case b3 => unfold maxLen; omega
  case b4 => exact Nat.le_refl _
  intro w0 hown hgrow
  have hb0 : Below w.heap.size w w0 := (Below.refl _ w).grown hgrow (Nat.le_refl _) (fun k e => by cases e)
  obtain ⟨f0, hf0⟩ := rowIs_of_own hown
  have hs0 : w.heap.size < w0.heap.size := hf0.lt
  clear hown hgrow hi hz0 hz1 hz2
  generalize hg : w.heap.size = g at *
  have HG := Lib.hid hg
  clear hg
  go_wp2_with fail
  go_loopw [4] (fun t wr => ∃ (k : Nat) (f : Nat → Value), k ≤ es.length ∧ t = .int .i64 k ∧ wr.rowIs g 55 (es.length * 7) f ∧ Hid (EntsF f es k) ∧ Below g w wr) (fun t _ => es.length - (intOf t).toNat)
  case atStart => exact ⟨0, f0, Nat.zero_le _, rfl, hf0, fun i hi => by omega, hb0⟩
  case round =>
    obtain ⟨k, f, hk, rfl, hrow, hF, hb⟩ := hrel
    have hr := h.below (hb.mono hB)
    have hgw := hrow.lt
    by_cases hlt : k < es.length
    · have HF := Lib.hid (entsF_set _ rfl hF.out)
      obtain ⟨b, off, rfl, hbB, c0, c1, c2, c3, c4, c5, c6⟩ := hr.at_ hlt
      have i1 : (k : Int) < (es.length : Int) := by omega
      generalize eat es k = e at *
      go_wp2_with fail
      refine (toEntry_any e _).mono ?_
      rintro _ w1 ⟨rfl, hb1⟩
      have hrow1 : w1.rowIs g 55 (es.length * 7) f := hrow.of_block (hb1.block g hgw)
      have hbw1 : Below g w w1 := hb.trans (hb1.mono (by omega))
      clear c0 c1 c2 c3 c4 c5 c6 hF hr
      have d0 := hrow1.cell (show k * 7 < _ by omega)
      have d1 := hrow1.cell (show k * 7 + 1 < _ by omega)
      have d2 := hrow1.cell (show k * 7 + 2 < _ by omega)
      have d3 := hrow1.cell (show k * 7 + 3 < _ by omega)
      have d4 := hrow1.cell (show k * 7 + 4 < _ by omega)
      have d5 := hrow1.cell (show k * 7 + 5 < _ by omega)
      have d6 := hrow1.cell (show k * 7 + 6 < _ by omega)
      have z0 := hrow1.frozen (k * 7)
      have z1 := hrow1.frozen (k * 7 + 1)
      have z2 := hrow1.frozen (k * 7 + 2)
      have z3 := hrow1.frozen (k * 7 + 3)
      have z4 := hrow1.frozen (k * 7 + 4)
      have z5 := hrow1.frozen (k * 7 + 5)
      have z6 := hrow1.frozen (k * 7 + 6)
      have HR := Lib.hid (((((((hrow1.set (k * 7) (.int .i64 e.who)).set (k * 7 + 1) (.int .i64 e.seq)).set (k * 7 + 2) (.int .i64 e.op.kind)).set (k * 7 + 3) (.int .i64 e.op.id)).set (k * 7 + 4) (.int .i64 e.op.up)).set (k * 7 + 5) (.int .i64 e.op.at_)).set (k * 7 + 6) (.string e.op.txt))
      generalize f (k * 7) = v0 at d0
      generalize f (k * 7 + 1) = v1 at d1
      generalize f (k * 7 + 2) = v2 at d2
      generalize f (k * 7 + 3) = v3 at d3
      generalize f (k * 7 + 4) = v4 at d4
      generalize f (k * 7 + 5) = v5 at d5
      generalize f (k * 7 + 6) = v6 at d6
      go_wp2
      go_roundw
      case rel => exact ⟨k + 1, _, by omega, by go_num, HR.out, HF, by
        repeat (first | (with_reducible exact hbw1) | refine Below.setCell ?_ (by simp) _)⟩
      case measure => simp [intOf]; omega
    · obtain rfl : k = es.length := by omega
      go_wp2
      go_ret
      exact ⟨g, rfl, by rw [HG.out]; exact Nat.le_refl _, ⟨f, hrow, Nat.le_refl _, hF.out⟩, by rw [HG.out]; exact hb⟩

/-! ### eqEntry, eqEntryS of one and the same -/
set_option maxHeartbeats 1000000 in
theorem eqOp_one (o : OpD) (w : World) :
    Calls Tryd.prog 55 #[.agg #[.int .i64 o.kind, .int .i64 o.id, .int .i64 o.up, .int .i64 o.at_, .string o.txt], .agg #[.int .i64 o.kind, .int .i64 o.id, .int .i64 o.up, .int .i64 o.at_, .string o.txt]] w (RetBelow (.bool true) w) := by
  go_enter Tryd.func55, Tryd.ntmps55
  go_wp2
  go_ret
  exact ⟨rfl, by repeat (first | exact Below.refl _ _ | refine Below.alloc ?_ (by simp <;> omega) _)⟩
set_option maxHeartbeats 1000000 in
theorem eqEntry_same (e : EntD) (w : World) :
    Calls Tryd.prog 39 #[.agg #[.int .i64 e.who, .int .i64 e.seq, .int .i64 e.op.kind, .int .i64 e.op.id, .int .i64 e.op.up, .int .i64 e.op.at_, .string e.op.txt], .agg #[.int .i64 e.who, .int .i64 e.seq, .int .i64 e.op.kind, .int .i64 e.op.id, .int .i64 e.op.up, .int .i64 e.op.at_, .string e.op.txt]] w (RetBelow (.bool true) w) := by
  have hb : Below w.heap.size w ((w.alloc (.cells #[.int .i64 e.who, .int .i64 e.seq, .int .i64 e.op.kind, .int .i64 e.op.id, .int .i64 e.op.up, .int .i64 e.op.at_, .string e.op.txt] 55)).alloc (.cells #[.int .i64 e.who, .int .i64 e.seq, .int .i64 e.op.kind, .int .i64 e.op.id, .int .i64 e.op.up, .int .i64 e.op.at_, .string e.op.txt] 55)) := ((Below.refl _ _).alloc (Nat.le_refl _) _).alloc (by simp) _
  go_enter Tryd.func39, Tryd.ntmps39
  go_wp2_with fail
  refine (eqOp_one e.op _).mono ?_
  rintro _ w1 ⟨rfl, hb1⟩
  go_wp2
  go_ret
  exact ⟨rfl, hb.trans (hb1.mono hb.size)⟩
set_option maxRecDepth 100000 in
set_option maxHeartbeats 1000000 in
theorem eqEntryS_same (B : Nat) (a a' : Option Addr) (cap cap' : Nat) (es : List EntD) (w : World) (hB : B ≤ w.heap.size) (h : EntsAt B w a es) (h' : EntsAt B w a' es) (hl : es.length ≤ 1048576) :
    Calls Tryd.prog 18 #[.slice a es.length cap, .slice a' es.length cap'] w (RetBelow (.bool true) w) := by
  go_enter Tryd.func18, Tryd.ntmps18
  go_wp2_with fail
  go_loopw [5] (fun t wr => ∃ k : Nat, k ≤ es.length ∧ t = .int .i64 k ∧ Below w.heap.size w wr) (fun t _ => es.length - (intOf t).toNat)
  case atStart => exact ⟨0, Nat.zero_le _, rfl, Below.refl _ _⟩
  case round =>
    obtain ⟨k, hk, rfl, hb⟩ := hrel
    have hr := h.below (hb.mono hB)
    have hr' := h'.below (hb.mono hB)
    by_cases hlt : k < es.length
    · obtain ⟨b, off, rfl, hbB, c0, c1, c2, c3, c4, c5, c6⟩ := hr.at_ hlt
      obtain ⟨b', off', rfl, hbB', d0, d1, d2, d3, d4, d5, d6⟩ := hr'.at_ hlt
      have i1 : (k : Int) < (es.length : Int) := by omega
      have hbw : b < wr.heap.size := by have := hb.size; omega
      have hbw' : b' < wr.heap.size := by have := hb.size; omega
      generalize eat es k = e at *
      have L0 := later_cell c0 hbw
      have L1 := later_cell c1 hbw
      have L2 := later_cell c2 hbw
      have L3 := later_cell c3 hbw
      have L4 := later_cell c4 hbw
      have L5 := later_cell c5 hbw
      have L6 := later_cell c6 hbw
      have M0 := later_cell d0 hbw'
      have M1 := later_cell d1 hbw'
      have M2 := later_cell d2 hbw'
      have M3 := later_cell d3 hbw'
      have M4 := later_cell d4 hbw'
      have M5 := later_cell d5 hbw'
      have M6 := later_cell d6 hbw'
      clear hr hr'
      go_wp2_with fail
      refine wp_region_later (by kernel_rfl) (by kernel_rfl) ?_
      repeat (go_big_quiet_step ((go_at_call 39; exact later_of (eqEntry_same _ _))))
      refine wpQuiet_nil ?_
      rintro wn ⟨⟨_, hbn⟩, rfl⟩
      clear L0 L1 L2 L3 L4 L5 L6 M0 M1 M2 M3 M4 M5 M6
      go_wp2
      go_roundw
      case rel => exact ⟨k + 1, by omega, by go_num, hb.trans (hbn.mono hb.size)⟩
      case measure => simp [intOf]; omega
    · go_wp2
      go_ret
      exact ⟨rfl, hb⟩
end Go.Proofs.YtogafpfgdonlmaaDoor
/-
  The laws' own helpers markEntryS and heldEntryS, exactly: what is marked is held. Conditions: as each theorem says.
-/
namespace Go.Proofs.YtogafpfgdonlmaaDoor
open Go.ChangeShapes Go.WideShapes Go.ChangeAt Go.RowKit Go.Joins

def ment (i : Nat) : EntD := ⟨(i : Int) * 7 + 1, (i : Int) * 7 + 2, ⟨(i : Int) * 7 + 3, (i : Int) * 7 + 4, (i : Int) * 7 + 5, (i : Int) * 7 + 6, mtB (i * 7 + 7)⟩⟩
def ments (n : Nat) : List EntD := (List.range n).map ment
theorem ments_len (n : Nat) : (ments n).length = n := by simp [ments]
theorem ments_at {n i : Nat} (h : i < n) : eat (ments n) i = ment i := by simp [eat, ments, List.getD_eq_getElem?_getD, h]
theorem ment_eq {k : Nat} {z : Int} (hz : z = (k : Int) * 7 + 1) : ment k = ⟨z, z + 1, ⟨z + 1 + 1, z + 1 + 1 + 1, z + 1 + 1 + 1 + 1, z + 1 + 1 + 1 + 1 + 1, mtB (k * 7 + 7)⟩⟩ := by
  subst hz; unfold ment; congr 1 <;> (try congr 1) <;> omega
set_option maxRecDepth 100000 in
set_option maxHeartbeats 2000000 in
theorem markEntryS_exC (g C cap : Nat) (es : List EntD) (w : World) (h : OwnEC w g C es) (hl : es.length ≤ 1048576) :
    Calls Tryd.prog 19 #[.slice (some ⟨g, 0, none⟩) es.length cap, .int .i64 1] w (fun e w' => e = .returned (.int .i64 ((es.length : Int) * 7 + 1)) ∧ OwnEC w' g C (ments es.length) ∧ But g w.heap.size w w') := by
  obtain ⟨f0, hf0, hC, _⟩ := h
  go_enter Tryd.func19, Tryd.ntmps19
  go_wp2_with fail
  go_loopw [1, 5] (fun m t wr => ∃ (k : Nat) (z : Int) (f : Nat → Value), k ≤ es.length ∧ t = .int .i64 k ∧ m = .int .i64 z ∧ Hid (z = (k : Int) * 7 + 1) ∧ 1 ≤ z ∧ z ≤ 7340033 ∧ wr.rowIs g 55 C f ∧ Hid (EntsF f (ments es.length) k) ∧ But g w.heap.size w wr) (fun _ t _ => es.length - (intOf t).toNat)
  case atStart => exact ⟨0, 1, f0, Nat.zero_le _, rfl, rfl, rfl, by omega, by omega, hf0, fun i hi => by omega, But.refl _ _ _⟩
  case round =>
    obtain ⟨k, z, f, hk, rfl, rfl, hz, z0, z1, hrow, hF, hb⟩ := hrel
    have hgw := hrow.lt
    by_cases hlt : k < es.length
    · have i1 : (k : Int) < (es.length : Int) := by omega
      have HF := Lib.hid (entsF_set ⟨z, z + 1, ⟨z + 1 + 1, z + 1 + 1 + 1, z + 1 + 1 + 1 + 1, z + 1 + 1 + 1 + 1 + 1, mtB (k * 7 + 7)⟩⟩ ((ments_at hlt).trans (ment_eq hz.out)) hF.out)
      clear hF
      have d0 := hrow.cell (show k * 7 < _ by omega)
      have y0 := hrow.frozen (k * 7)
      have d1 := hrow.cell (show k * 7 + 1 < _ by omega)
      have y1 := hrow.frozen (k * 7 + 1)
      have d2 := hrow.cell (show k * 7 + 2 < _ by omega)
      have y2 := hrow.frozen (k * 7 + 2)
      have d3 := hrow.cell (show k * 7 + 3 < _ by omega)
      have y3 := hrow.frozen (k * 7 + 3)
      have d4 := hrow.cell (show k * 7 + 4 < _ by omega)
      have y4 := hrow.frozen (k * 7 + 4)
      have d5 := hrow.cell (show k * 7 + 5 < _ by omega)
      have y5 := hrow.frozen (k * 7 + 5)
      have HB : But g w.heap.size w ((((((wr.setCell ⟨g, k * 7, none⟩ (.int .i64 z)).setCell ⟨g, k * 7 + 1, none⟩ (.int .i64 (z + 1))).setCell ⟨g, k * 7 + 2, none⟩ (.int .i64 (z + 1 + 1))).setCell ⟨g, k * 7 + 3, none⟩ (.int .i64 (z + 1 + 1 + 1))).setCell ⟨g, k * 7 + 4, none⟩ (.int .i64 (z + 1 + 1 + 1 + 1))).setCell ⟨g, k * 7 + 5, none⟩ (.int .i64 (z + 1 + 1 + 1 + 1 + 1))) := ((((((hb.setCell (k * 7) _).setCell (k * 7 + 1) _).setCell (k * 7 + 2) _).setCell (k * 7 + 3) _).setCell (k * 7 + 4) _).setCell (k * 7 + 5) _)
      have HR := ((((((hrow.set (k * 7) (.int .i64 z)).set (k * 7 + 1) (.int .i64 (z + 1))).set (k * 7 + 2) (.int .i64 (z + 1 + 1))).set (k * 7 + 3) (.int .i64 (z + 1 + 1 + 1))).set (k * 7 + 4) (.int .i64 (z + 1 + 1 + 1 + 1))).set (k * 7 + 5) (.int .i64 (z + 1 + 1 + 1 + 1 + 1)))
      have hsz : ((((((wr.setCell ⟨g, k * 7, none⟩ (.int .i64 z)).setCell ⟨g, k * 7 + 1, none⟩ (.int .i64 (z + 1))).setCell ⟨g, k * 7 + 2, none⟩ (.int .i64 (z + 1 + 1))).setCell ⟨g, k * 7 + 3, none⟩ (.int .i64 (z + 1 + 1 + 1))).setCell ⟨g, k * 7 + 4, none⟩ (.int .i64 (z + 1 + 1 + 1 + 1))).setCell ⟨g, k * 7 + 5, none⟩ (.int .i64 (z + 1 + 1 + 1 + 1 + 1))).heap.size = wr.heap.size := by simp [World.setCell]
      have HM := Lib.hid (markText_ex (k * 7 + 7) ((((((wr.setCell ⟨g, k * 7, none⟩ (.int .i64 z)).setCell ⟨g, k * 7 + 1, none⟩ (.int .i64 (z + 1))).setCell ⟨g, k * 7 + 2, none⟩ (.int .i64 (z + 1 + 1))).setCell ⟨g, k * 7 + 3, none⟩ (.int .i64 (z + 1 + 1 + 1))).setCell ⟨g, k * 7 + 4, none⟩ (.int .i64 (z + 1 + 1 + 1 + 1))).setCell ⟨g, k * 7 + 5, none⟩ (.int .i64 (z + 1 + 1 + 1 + 1 + 1))) (by omega))
      rw [show (((k * 7 + 7 : Nat) : Int)) = z + 1 + 1 + 1 + 1 + 1 + 1 by have := hz.out; omega] at HM
      have HZ2 : Hid (z + 1 + 1 + 1 + 1 + 1 + 1 + 1 = ((k + 1 : Nat) : Int) * 7 + 1) := by have := hz.out; unfold Hid; omega
      have z2 : z + 1 + 1 + 1 + 1 + 1 + 1 + 1 ≤ 7340033 := by have := hz.out; omega
      generalize f (k * 7) = v0 at d0
      generalize f (k * 7 + 1) = v1 at d1
      generalize f (k * 7 + 2) = v2 at d2
      generalize f (k * 7 + 3) = v3 at d3
      generalize f (k * 7 + 4) = v4 at d4
      generalize f (k * 7 + 5) = v5 at d5
      clear hz
      go_upto_region 16 with fail
      generalize ((((((wr.setCell ⟨g, k * 7, none⟩ (.int .i64 z)).setCell ⟨g, k * 7 + 1, none⟩ (.int .i64 (z + 1))).setCell ⟨g, k * 7 + 2, none⟩ (.int .i64 (z + 1 + 1))).setCell ⟨g, k * 7 + 3, none⟩ (.int .i64 (z + 1 + 1 + 1))).setCell ⟨g, k * 7 + 4, none⟩ (.int .i64 (z + 1 + 1 + 1 + 1))).setCell ⟨g, k * 7 + 5, none⟩ (.int .i64 (z + 1 + 1 + 1 + 1 + 1))) = W6 at *
      clear d0 y0 d1 y1 d2 y2 d3 y3 d4 y4 d5 y5
      go_wp2_with fail
      refine HM.out.mono ?_
      rintro e w1 ⟨rfl, hb1⟩
      rw [hsz] at hb1
      have hrow1 := HR.of_block (hb1.block g hgw)
      have hbw1 : But g w.heap.size w w1 := HB.trans ((But.of_below hb1).mono hb.size)
      have d6 := hrow1.cell (show k * 7 + 6 < _ by omega)
      have y6 := hrow1.frozen (k * 7 + 6)
      generalize hmt : mtB (k * 7 + 7) = mt at *
      have HR1 := Lib.hid (hrow1.set (k * 7 + 6) (.string mt))
      have HB1 := Lib.hid (hbw1.setCell (k * 7 + 6) (.string mt))
      clear HR HB hb1 hsz hmt HM hrow1
      go_wp2
      go_roundw
      case rel => exact ⟨k + 1, _, _, by omega, by go_num, rfl, HZ2, by omega, z2, HR1.out, HF, HB1.out⟩
      case measure => simp [intOf]; omega
    · obtain rfl : k = es.length := by omega
      go_wp2
      go_ret
      exact ⟨by rw [hz.out]; rfl, ⟨f, hrow, by rw [ments_len]; exact hC, by rw [ments_len]; exact hF.out⟩, hb⟩
theorem markEntryS_nil (a : Option Addr) (cap : Nat) (w : World) :
    Calls Tryd.prog 19 #[.slice a 0 cap, .int .i64 1] w (fun e w' => e = .returned (.int .i64 1) ∧ w = w') := by
  go_enter Tryd.func19, Tryd.ntmps19
  go_wp2_with fail
  go_loopw [1, 5] (fun m t wr => m = .int .i64 1 ∧ t = .int .i64 0 ∧ wr = w) (fun _ _ _ => 0)
  case atStart => exact ⟨rfl, rfl, rfl⟩
  case round =>
    obtain ⟨rfl, rfl, rfl⟩ := hrel
    go_wp2
    go_ret
    exact ⟨rfl, rfl⟩
theorem markEntryS_got (base : Nat) (a : Option Addr) (cap : Nat) (es : List EntD) (w : World) (hb : base ≤ w.heap.size) (h : GotE base w a es) (hl : es.length ≤ 1048576) :
    Calls Tryd.prog 19 #[.slice a es.length cap, .int .i64 1] w (fun e w' => e = .returned (.int .i64 ((es.length : Int) * 7 + 1)) ∧ GotE base w' a (ments es.length) ∧ Below base w w') := by
  rcases h with h | ⟨g, C, rfl, hg, ho⟩
  · rw [h]
    refine (markEntryS_nil a cap w).mono ?_
    rintro e w' ⟨rfl, rfl⟩
    exact ⟨rfl, .inl rfl, Below.refl _ _⟩
  · refine (markEntryS_exC g C cap es w ho hl).mono ?_
    rintro e w' ⟨rfl, h1, h2⟩
    exact ⟨rfl, .inr ⟨g, C, rfl, hg, h1⟩, h2.below hg hb⟩
def RetHeldE (n : Nat) (w : World) (e : Ending) (w' : World) : Prop := e = .returned (.int .i64 ((n : Int) * 7 + 1)) ∧ Below w.heap.size w w'
set_option maxRecDepth 100000 in
set_option maxHeartbeats 2000000 in
theorem heldEntryS_ex (B : Nat) (a : Option Addr) (cap n : Nat) (w : World) (hB : B ≤ w.heap.size) (h : EntsAt B w a (ments n)) (hl : n ≤ 1048576) :
    Calls Tryd.prog 31 #[.slice a n cap, .int .i64 1] w (RetHeldE n w) := by
  go_enter Tryd.func31, Tryd.ntmps31
  go_wp2_with fail
  go_loopw [1, 5] (fun m t wr => ∃ (k : Nat) (z : Int), k ≤ n ∧ t = .int .i64 k ∧ m = .int .i64 z ∧ Hid (z = (k : Int) * 7 + 1) ∧ 1 ≤ z ∧ z ≤ 7340033 ∧ Below w.heap.size w wr) (fun _ t _ => n - (intOf t).toNat)
  case atStart => exact ⟨0, 1, Nat.zero_le _, rfl, rfl, rfl, by omega, by omega, Below.refl _ _⟩
  case round =>
    obtain ⟨k, z, hk, rfl, rfl, hz, z0, z1, hb⟩ := hrel
    have hr := h.below (hb.mono hB)
    by_cases hlt : k < n
    · obtain ⟨b, off, rfl, hbB, c0, c1, c2, c3, c4, c5, c6⟩ := hr.at_ (show k < (ments n).length by rw [ments_len]; exact hlt)
      rw [ments_at hlt, ment_eq hz.out] at c0 c1 c2 c3 c4 c5 c6
      simp only at c0 c1 c2 c3 c4 c5 c6
      have i1 : (k : Int) < (n : Int) := by omega
      have hbw : b < wr.heap.size := by have := hb.size; omega
      have HM : Hid (∀ u : World, Calls Tryd.prog 40 #[.int .i64 (z + 1 + 1 + 1 + 1 + 1 + 1)] u (RetBelow (.string (mtB (k * 7 + 7))) u)) := fun u => by
        have hm := markText_ex (k * 7 + 7) u (by omega)
        rw [show (((k * 7 + 7 : Nat) : Int)) = z + 1 + 1 + 1 + 1 + 1 + 1 by have := hz.out; omega] at hm
        exact hm
      have HZ2 : Hid (z + 1 + 1 + 1 + 1 + 1 + 1 + 1 = ((k + 1 : Nat) : Int) * 7 + 1) := by have := hz.out; unfold Hid; omega
      have z2 : z + 1 + 1 + 1 + 1 + 1 + 1 + 1 ≤ 7340033 := by have := hz.out; omega
      have L6 := later_cell c6 hbw
      generalize hmt : mtB (k * 7 + 7) = mt at *
      clear hmt hz hr
      go_wp2_with fail
      refine wp_region_later (by kernel_rfl) (by kernel_rfl) ?_
      repeat (go_big_quiet_step ((go_at_call 40; exact later_of (HM.out _))))
      refine wpQuiet_nil ?_
      rintro wn ⟨⟨_, hbn⟩, rfl⟩
      clear L6
      go_wp2
      go_roundw
      case rel => exact ⟨k + 1, _, by omega, by go_num, rfl, HZ2, by omega, z2, hb.trans (hbn.mono hb.size)⟩
      case measure => simp [intOf]; omega
    · obtain rfl : k = n := by omega
      go_wp2
      go_ret
      exact ⟨by rw [hz.out]; rfl, hb⟩
end Go.Proofs.YtogafpfgdonlmaaDoor
