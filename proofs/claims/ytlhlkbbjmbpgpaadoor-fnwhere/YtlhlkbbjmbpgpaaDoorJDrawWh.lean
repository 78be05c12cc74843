/-
  spec.DrawOpWhere: some outline and some change, in bounds. Conditions: the code reads as bytes.
-/
import Derived.Test.YtlhlkbbjmbpgpaaDoorGX
namespace Go.Proofs.YtlhlkbbjmbpgpaaDoor
open Go.ChangeShapes Go.WideShapes Go.ChangeAt Go.RowKit Go.Joins

/-- What holds between two drawings: the reader lies in block b, the result's box is block B, the change's box block C. -/
structure WH (N b p B C base : Nat) (w0 w : World) (a : Option Addr) (cap : Nat) (rs : List RowD) (o : OpD) : Prop where
  hunt : Hunt N b p base w0 w a cap rs
  res : OBox w B oz
  box : OBox w C o
  ok : OpS o
theorem WH.more {N b p q B C base : Nat} {w0 w w' : World} {a : Option Addr} {cap : Nat} {rs : List RowD} {o : OpD} (h : WH N b p B C base w0 w a cap rs o) (hb : But b w.heap.size w w') (hr : Rd N w' b q) (h1 : B ≠ b) (h2 : C ≠ b) : WH N b q B C base w0 w' a cap rs o :=
  ⟨h.hunt.more hb hr, h.res.but hb h.res.lt h1, h.box.but hb h.box.lt h2, h.ok⟩
theorem WH.below {N b p B C base : Nat} {w0 w w' : World} {a : Option Addr} {cap : Nat} {rs : List RowD} {o : OpD} (h : WH N b p B C base w0 w a cap rs o) (hb : Below w.heap.size w w') : WH N b p B C base w0 w' a cap rs o := ⟨h.hunt.below hb, h.res.below hb h.res.lt, h.box.below hb h.box.lt, h.ok⟩
theorem WH.rd {N b p q B C base : Nat} {w0 w : World} {a : Option Addr} {cap : Nat} {rs : List RowD} {o : OpD} (h : WH N b p B C base w0 w a cap rs o) (hq : p ≤ q) : WH N b q B C base w0 w a cap rs o := ⟨h.hunt.rd hq, h.res, h.box, h.ok⟩
theorem Hunt.set {N b p base C k g off cap : Nat} {w0 w : World} {v : Value} {rs : List RowD} (h : Hunt N b p base w0 w (some ⟨g, off, none⟩) cap rs) (hC : base ≤ C) (hg : g ≠ C) : Hunt N b p base w0 (w.setCell ⟨C, k, none⟩ v) (some ⟨g, off, none⟩) cap rs := by
  obtain ⟨h1, h2, h3, h4, h5⟩ := h
  have hB : Below base w (w.setCell ⟨C, k, none⟩ v) := (Below.refl _ _).setCell (p := ⟨C, k, none⟩) hC _
  exact ⟨h1.set hg, h2.trans (But.of_below hB), h3.below hB h4, h4, Nat.le_trans h5 hB.size⟩
theorem given_box {w : World} {C : Nat} {o o' : OpD} (h : OBox w C o) : OBox (given w C o') C o' := by
  have := ((((h.set0 o'.kind).set1 o'.id).set2 o'.up).set3 o'.at_).set4 o'.txt
  exact this
theorem given_other {w : World} {B C : Nat} {o o' : OpD} (h : OBox w B o) (hne : B ≠ C) : OBox (given w C o') B o := by
  unfold given OBox
  rw [Below.heap_setCell _ _ _ _ hne, Below.heap_setCell _ _ _ _ hne, Below.heap_setCell _ _ _ _ hne, Below.heap_setCell _ _ _ _ hne, Below.heap_setCell _ _ _ _ hne]
  exact h
theorem WH.put {N b p B C base cap g off : Nat} {w0 w : World} {rs : List RowD} {o o' : OpD} (h : Hunt N b p base w0 w (some ⟨g, off, none⟩) cap rs) (hC : base ≤ C) (hg : g ≠ C) (hr : OBox w B oz) (hb : OBox w C o) (hne : B ≠ C) (ho : OpS o') : WH N b p B C base w0 (given w C o') (some ⟨g, off, none⟩) cap rs o' := by
  refine ⟨?_, given_other hr hne, given_box hb, ho⟩
  unfold given
  exact ((((h.set hC hg).set hC hg).set hC hg).set hC hg).set hC hg
theorem WH.drew {N b p C base cap : Nat} {w w1 wx : World} {a : Option Addr} {rs : List RowD} {o : OpD} (h : WH N b p w.heap.size C base w1 wx a cap rs o) (hb : Below w.heap.size w w1) (hlt : w.heap.size < base) (hN : N = w.heap.size) (hbl : w.heap.size ≤ b) (hbs : base = w1.heap.size) : DrewDo w (.returned (.tuple #[.slice a rs.length cap, .agg #[.int .i64 o.kind, .int .i64 o.id, .int .i64 o.up, .int .i64 o.at_, .string o.txt]])) (given wx w.heap.size o) := by
  subst hN hbs
  obtain ⟨⟨h1, h2, h3, h4, h5⟩, h6, h7, h8⟩ := h
  obtain ⟨g, off, rfl, hg1, hg2, _⟩ := id h1
  have gne : g ≠ w.heap.size := by omega
  have hB : Below w.heap.size wx (given wx w.heap.size o) := by
    unfold given
    exact (((((Below.refl _ _).setCell (p := ⟨w.heap.size, 0, none⟩) (Nat.le_refl _) _).setCell (p := ⟨w.heap.size, 1, none⟩) (Nat.le_refl _) _).setCell (p := ⟨w.heap.size, 2, none⟩) (Nat.le_refl _) _).setCell (p := ⟨w.heap.size, 3, none⟩) (Nat.le_refl _) _).setCell (p := ⟨w.heap.size, 4, none⟩) (Nat.le_refl _) _
  refine ⟨_, cap, rs, o, h8, rfl, ?_, (hb.trans (h2.below hbl (by omega))).trans hB⟩
  unfold given
  exact (((((h1.base (by omega)).set gne).set gne).set gne).set gne).set gne
set_option maxRecDepth 100000 in
set_option maxHeartbeats 4000000 in
theorem drawOpWhere_any (a : Option Addr) (len cap : Nat) (w : World) (hb : Bytes w a len cap) :
    Calls Tryd.prog 21 #[.slice a len cap] w (DrewDo w) := by
  obtain ⟨h1, h2, h3⟩ := hb
  have hal : Below w.heap.size w (w.alloc (.cells #[.int .i64 0, .int .i64 0, .int .i64 0, .int .i64 0, .string ⟨#[]⟩] 25)) := (Below.refl _ _).alloc (Nat.le_refl _) _
  have hR0 := OBox.new w oz
  go_enter Tryd.func21, Tryd.ntmps21
  go_wp2_with fail
  refine (l6Open_any w.heap.size _ _ _ _ hal.size h1 h2 (h3.below hal)).mono ?_
  rintro e w1 ⟨rfl, b1, s1, r1⟩
  have hR1 : OBox w1 w.heap.size oz := hR0.below b1 hR0.lt
  have hsz : (w.alloc (.cells #[.int .i64 0, .int .i64 0, .int .i64 0, .int .i64 0, .string ⟨#[]⟩] 25)).heap.size = w.heap.size + 1 := by simp
  have b1' := hal.trans (b1.mono hal.size)
  have hs1 := b1.size
  rw [hsz] at r1 s1 hs1
  clear b1 hR0
  go_wp2_with fail
  refine (l71Fits_any w.heap.size (w.heap.size + 1) 0 w1 r1 (by omega)).mono ?_
  rintro e w2 ⟨a2, cap2, rs, o, ho, rfl, l2, b2, r2⟩
  obtain ⟨g2, o2f, rfl, hg1, hg2, _⟩ := id l2
  have hH0 : Hunt w.heap.size (w.heap.size + 1) 4000 w1.heap.size w1 w2 (some ⟨g2, o2f, none⟩) cap2 rs := ⟨l2, b2, by simpa using r2, by omega, b2.size⟩
  have hR2 : OBox w2 w.heap.size oz := hR1.but b2 hR1.lt (by omega)
  have hal2 : Below w2.heap.size w2 (w2.alloc (.cells #[.int .i64 o.kind, .int .i64 o.id, .int .i64 o.up, .int .i64 o.at_, .string o.txt] 25)) := (Below.refl _ _).alloc (Nat.le_refl _) _
  have hs2 := b2.size
  have hW0 : WH w.heap.size (w.heap.size + 1) 4000 w.heap.size w2.heap.size w1.heap.size w1 (w2.alloc (.cells #[.int .i64 o.kind, .int .i64 o.id, .int .i64 o.up, .int .i64 o.at_, .string o.txt] 25)) (some ⟨g2, o2f, none⟩) cap2 rs o := ⟨hH0.below hal2, hR2.below hal2 hR2.lt, OBox.new w2 o, ho⟩
  have e1 : Hid (w.heap.size ≠ w.heap.size + 1) := by simp [Hid]
  have e2 : Hid (w2.heap.size ≠ w.heap.size + 1) := by show w2.heap.size ≠ w.heap.size + 1; omega
  have e3 : Hid (w.heap.size ≠ w2.heap.size) := by show w.heap.size ≠ w2.heap.size; omega
  have e4 : Hid (w1.heap.size ≤ w2.heap.size) := hs2
  have e5 : Hid (w.heap.size < w1.heap.size) := by show w.heap.size < w1.heap.size; omega
  clear hH0 hR2 hR1 l2 b2 r2 r1 hg1 hg2 hal2 hs2 hs1 s1 hal hsz h3
  generalize hC : w2.heap.size = C at *
  go_wp2_with fail
  go_loopw [5, 7] (fun t i wr => ∃ (k : Nat) (a : Option Addr) (cap : Nat) (rs : List RowD) (o : OpD), k ≤ 4 ∧ i = .int .i64 k ∧ t = .slice a rs.length cap ∧ WH w.heap.size (w.heap.size + 1) (4000 + 4100 * k) w.heap.size C w1.heap.size w1 wr a cap rs o) (fun _ i _ => 4 - (intOf i).toNat)
  case atStart => exact ⟨0, _, _, rs, o, by omega, rfl, rfl, hW0⟩
  case round =>
    obtain ⟨k, a, cap, rs, o, hk, rfl, rfl, hW⟩ := hrel
    clear hW0 ho
    go_upto_region 4 with fail
    go_cut [26] (fun s wx => ∃ c : Bool, s = .bool c ∧ (c = true → k < 4) ∧ WH w.heap.size (w.heap.size + 1) (4001 + 4100 * k) w.heap.size C w1.heap.size w1 wx a cap rs o)
    case first =>
      by_cases h6 : k < 4
      · have h6' : (k : Int) < 4 := by omega
        go_wp2_with fail
        refine (pick_any _ _ _ _ _ hW.hunt.2.2.1 (by omega) (by omega) (by omega)).mono ?_
        rintro e w3 ⟨q, q0, q1, rfl, b3, s3, r3⟩
        have hW3 := hW.more b3 r3 e1.out e2.out
        clear hW b3 r3
        have c0 := hW3.box.cells.1
        by_cases hq : (0 : Int) < q
        · go_wp2_with fail
          go_meet
          exact ⟨_, rfl, fun _ => h6, hW3.rd (by omega)⟩
        · go_wp2_with fail
          go_meet
          exact ⟨_, rfl, fun _ => h6, hW3.rd (by omega)⟩
      · have h6' : ¬ (k : Int) < 4 := by omega
        go_wp2_with fail
        go_meet
        exact ⟨false, by first | rfl | simp | (simp; omega), fun h => by simp at h, hW.rd (by omega)⟩
    case rest =>
      obtain ⟨c, rfl, hc, hW2⟩ := hcut
      clear hW
      cases c
      · clear hc
        have HF := Lib.hid ((hW2.below ((Below.refl _ _).drew)).drew b1' e5.out rfl (by omega) rfl)
        have hne := e3.out
        obtain ⟨d0, d1, d2, d3, d4⟩ := hW2.res.cells
        obtain ⟨c0, c1, c2, c3, c4⟩ := hW2.box.cells
        have y0 := hW2.res.frozen 0
        have y1 := hW2.res.frozen 1
        have y2 := hW2.res.frozen 2
        have y3 := hW2.res.frozen 3
        have y4 := hW2.res.frozen 4
        clear hW2 b1'
        go_wp2_with fail
        go_region
        all_goals
          go_wp2
          exact bodyPost_ret (by simp [results, Tryd.results21, go_sem, d0, d1, d2, d3, d4]) rfl HF.out
      · have h6 := hc rfl
        clear hc
        go_wp2_with fail
        refine (l71Fits_any _ _ _ _ hW2.hunt.2.2.1 (by omega)).mono ?_
        rintro e w4 ⟨a4, cap4, rs4, o4, ho4, rfl, l4, b4, r4⟩
        obtain ⟨g4, f4, rfl, hg1, hg2, _⟩ := id l4
        have hH4 := hW2.hunt.anew l4 b4 r4
        have hR4 := hW2.res.but b4 hW2.res.lt e1.out
        have hB4 := hW2.box.but b4 hW2.box.lt e2.out
        have hlt := hW2.box.lt
        have HW := Lib.hid ((WH.put hH4 e4.out (by omega) hR4 hB4 e3.out ho4).rd (show _ ≤ 4000 + 4100 * (k + 1) by omega))
        obtain ⟨d0, d1, d2, d3, d4⟩ := hB4.cells
        have y0 := hB4.frozen 0
        have y1 := hB4.frozen 1
        have y2 := hB4.frozen 2
        have y3 := hB4.frozen 3
        have y4 := hB4.frozen 4
        clear hW2 l4 b4 r4 hH4 hR4 hB4 hlt hg1 hg2
        go_wp2
        go_roundw
        case rel => exact ⟨k + 1, _, _, rs4, o4, by omega, by go_num, rfl, HW.out⟩
        case measure => simp [intOf]; omega
end Go.Proofs.YtlhlkbbjmbpgpaaDoor
