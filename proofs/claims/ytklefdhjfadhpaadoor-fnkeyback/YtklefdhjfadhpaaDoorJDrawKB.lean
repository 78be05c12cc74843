/-
  spec.DrawKeyBack: some outline and some change, in bounds. Conditions: the code reads as bytes.
-/
import Derived.Test.YtklefdhjfadhpaaDoorJDrawWh
import Derived.Test.YtklefdhjfadhpaaDoorJSKeyBack2
namespace Go.Proofs.YtklefdhjfadhpaaDoor
open Go.ChangeShapes Go.WideShapes Go.ChangeAt Go.RowKit Go.Joins

set_option maxRecDepth 100000 in
set_option maxHeartbeats 4000000 in
theorem drawKeyBack_any (a : Option Addr) (len cap : Nat) (w : World) (hb : Bytes w a len cap) :
    Calls Tryd.prog 25 #[.slice a len cap] w (DrewDo w) := by
  obtain ⟨h1, h2, h3⟩ := hb
  have hal : Below w.heap.size w (w.alloc (.cells #[.int .i64 0, .int .i64 0, .int .i64 0, .int .i64 0, .string ⟨#[]⟩] 27)) := (Below.refl _ _).alloc (Nat.le_refl _) _
  have hR0 := OBox.new w oz
  go_enter Tryd.func25, Tryd.ntmps25
  go_wp2_with fail
  refine (l6Open_any w.heap.size _ _ _ _ hal.size h1 h2 (h3.below hal)).mono ?_
  rintro e w1 ⟨rfl, b1, s1, r1⟩
  have hR1 : OBox w1 w.heap.size oz := hR0.below b1 hR0.lt
  have hsz : (w.alloc (.cells #[.int .i64 0, .int .i64 0, .int .i64 0, .int .i64 0, .string ⟨#[]⟩] 27)).heap.size = w.heap.size + 1 := by simp
  have b1' := hal.trans (b1.mono hal.size)
  have hs1 := b1.size
  rw [hsz] at r1 s1 hs1
  clear b1 hR0
  go_wp2_with fail
  refine (l71Fits_any w.heap.size (w.heap.size + 1) 0 w1 r1 (by omega)).mono ?_
  rintro e w2 ⟨a2, cap2, rs, o, ho, rfl, l2, b2, r2⟩
  obtain ⟨g2, o2f, rfl, hg1, hg2, _⟩ := id l2
  have hH0 : Hunt w.heap.size (w.heap.size + 1) 4000 w1.heap.size w1 w2 (some ⟨g2, o2f, none⟩) cap2 rs := ⟨l2, b2, by simpa using r2, by omega, b2.size⟩
  have hR2 : OBox w2 w.heap.size oz := hR1.but b2 hR1.lt (by omega)
  have hal2 : Below w2.heap.size w2 (w2.alloc (.cells #[.int .i64 o.kind, .int .i64 o.id, .int .i64 o.up, .int .i64 o.at_, .string o.txt] 27)) := (Below.refl _ _).alloc (Nat.le_refl _) _
  have hs2 := b2.size
  have hW0 : WH w.heap.size (w.heap.size + 1) 4000 w.heap.size w2.heap.size w1.heap.size w1 (w2.alloc (.cells #[.int .i64 o.kind, .int .i64 o.id, .int .i64 o.up, .int .i64 o.at_, .string o.txt] 27)) (some ⟨g2, o2f, none⟩) cap2 rs o := ⟨hH0.below hal2, hR2.below hal2 hR2.lt, OBox.new w2 o, ho⟩
  have e1 : Hid (w.heap.size ≠ w.heap.size + 1) := by simp [Hid]
  have e2 : Hid (w2.heap.size ≠ w.heap.size + 1) := by show w2.heap.size ≠ w.heap.size + 1; omega
  have e3 : Hid (w.heap.size ≠ w2.heap.size) := by show w.heap.size ≠ w2.heap.size; omega
  have e4 : Hid (w1.heap.size ≤ w2.heap.size) := hs2
  have e5 : Hid (w.heap.size < w1.heap.size) := by show w.heap.size < w1.heap.size; omega
  clear hH0 hR2 hR1 l2 b2 r2 r1 hg1 hg2 hal2 hs2 hs1 s1 hal hsz h3
  generalize hC : w2.heap.size = C at *
  go_wp2_with fail
  go_loopw [5, 7] (fun t i wr => ∃ (k : Nat) (a : Option Addr) (cap : Nat) (rs : List RowD) (o : OpD), k ≤ 5 ∧ i = .int .i64 k ∧ t = .slice a rs.length cap ∧ WH w.heap.size (w.heap.size + 1) (4000 + 4100 * k) w.heap.size C w1.heap.size w1 wr a cap rs o) (fun _ i _ => 5 - (intOf i).toNat)
  case atStart => exact ⟨0, _, _, rs, o, by omega, rfl, rfl, hW0⟩
  case round =>
    obtain ⟨k, a, cap, rs, o, hk, rfl, rfl, hW⟩ := hrel
    clear hW0 ho
    go_upto_region 4 with fail
    go_cut [23] (fun s wx => ∃ c : Bool, s = .bool c ∧ (c = true → k < 5) ∧ WH w.heap.size (w.heap.size + 1) (4001 + 4100 * k) w.heap.size C w1.heap.size w1 wx a cap rs o)
    case first =>
      by_cases h6 : k < 5
      · have h6' : (k : Int) < 5 := by omega
        go_wp2_with fail
        refine (pick_any _ _ _ _ _ hW.hunt.2.2.1 (by omega) (by omega) (by omega)).mono ?_
        rintro e w3 ⟨q, q0, q1, rfl, b3, s3, r3⟩
        have hW3 := hW.more b3 r3 e1.out e2.out
        clear hW b3 r3
        by_cases hq : (0 : Int) < q
        · go_wp2_with fail
          go_meet
          exact ⟨_, rfl, fun _ => h6, hW3.rd (by omega)⟩
        · go_wp2_with fail
          go_meet
          exact ⟨_, rfl, fun _ => h6, hW3.rd (by omega)⟩
      · have h6' : ¬ (k : Int) < 5 := by omega
        go_wp2_with fail
        go_meet
        exact ⟨false, by first | rfl | simp | (simp; omega), fun h => by simp at h, hW.rd (by omega)⟩
    case rest =>
      obtain ⟨c, rfl, hc, hW2⟩ := hcut
      clear hW
      cases c
      · clear hc
        have HF := Lib.hid ((hW2.below ((Below.refl _ _).drew)).drew b1' e5.out rfl (by omega) rfl)
        have hne := e3.out
        obtain ⟨d0, d1, d2, d3, d4⟩ := hW2.res.cells
        obtain ⟨c0, c1, c2, c3, c4⟩ := hW2.box.cells
        have y0 := hW2.res.frozen 0
        have y1 := hW2.res.frozen 1
        have y2 := hW2.res.frozen 2
        have y3 := hW2.res.frozen 3
        have y4 := hW2.res.frozen 4
        clear hW2 b1'
        go_wp2_with fail
        go_region
        all_goals
          go_wp2
          exact bodyPost_ret (by simp [results, Tryd.results25, go_sem, d0, d1, d2, d3, d4]) rfl HF.out
      · have h6 := hc rfl
        clear hc
        obtain ⟨c0, c1, c2, c3, c4⟩ := hW2.box.cells
        have HKB := Lib.hid (specKeyBack_any _ _ _ _ _ wc (Nat.le_refl _) hW2.hunt.1.rows hW2.hunt.1.fit hW2.ok.fit hW2.hunt.1.cap.1 hW2.hunt.1.cap.2)
        generalize kbackO rs o = ko at *
        generalize kbackB rs o = kb at *
        simp only [keyV] at HKB
        go_wp2_with fail
        refine HKB.out.mono ?_
        rintro _ w5 ⟨rfl, b5⟩
        have hW5 := hW2.below b5
        have hW6 := hW5.below ((Below.refl w5.heap.size w5).alloc (Nat.le_refl _) (.cells #[.int .i64 ko.kind, .int .i64 ko.id, .int .i64 ko.up, .int .i64 ko.at_, .string ko.txt] 27))
        clear hW2 hW5 b5 HKB c0 c1 c2 c3 c4
        go_upto_region 7 with fail
        generalize w5.alloc (.cells #[.int .i64 ko.kind, .int .i64 ko.id, .int .i64 ko.up, .int .i64 ko.at_, .string ko.txt] 27) = w6 at *
        cases kb
        · go_wp2_with fail
          refine (l71Fits_any _ _ _ _ hW6.hunt.2.2.1 (by omega)).mono ?_
          rintro e w4 ⟨a4, cap4, rs4, o4, ho4, rfl, l4, b4, r4⟩
          obtain ⟨g4, f4, rfl, hg1, hg2, _⟩ := id l4
          have hH4 := hW6.hunt.anew l4 b4 r4
          have hR4 := hW6.res.but b4 hW6.res.lt e1.out
          have hB4 := hW6.box.but b4 hW6.box.lt e2.out
          have hlt := hW6.box.lt
          have HW := Lib.hid ((WH.put hH4 e4.out (by omega) hR4 hB4 e3.out ho4).rd (show _ ≤ 4000 + 4100 * (k + 1) by omega))
          obtain ⟨d0, d1, d2, d3, d4⟩ := hB4.cells
          have y0 := hB4.frozen 0
          have y1 := hB4.frozen 1
          have y2 := hB4.frozen 2
          have y3 := hB4.frozen 3
          have y4 := hB4.frozen 4
          clear hW6 l4 b4 r4 hH4 hR4 hB4 hlt hg1 hg2
          go_wp2
          go_roundw
          case rel => exact ⟨k + 1, _, _, rs4, o4, by omega, by go_num, rfl, HW.out⟩
          case measure => simp [intOf]; omega
        · have HF := Lib.hid ((hW6.below ((Below.refl _ _).drew)).drew b1' e5.out rfl (by omega) rfl)
          have hne := e3.out
          obtain ⟨d0, d1, d2, d3, d4⟩ := hW6.res.cells
          obtain ⟨c0, c1, c2, c3, c4⟩ := hW6.box.cells
          have y0 := hW6.res.frozen 0
          have y1 := hW6.res.frozen 1
          have y2 := hW6.res.frozen 2
          have y3 := hW6.res.frozen 3
          have y4 := hW6.res.frozen 4
          clear hW6 b1'
          go_wp2_with fail
          go_region
          all_goals
            go_wp2
            exact bodyPost_ret (by simp [results, Tryd.results25, go_sem, d0, d1, d2, d3, d4]) rfl HF.out
end Go.Proofs.YtklefdhjfadhpaaDoor
