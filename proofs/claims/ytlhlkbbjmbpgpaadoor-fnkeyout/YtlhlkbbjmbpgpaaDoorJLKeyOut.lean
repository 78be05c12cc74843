/-
  The walk of the law FnKeyOut out of the contracts. Conditions: the argument reads as bytes; the table 'creators' holds what its initialiser lays.
-/
import Derived.Test.YtlhlkbbjmbpgpaaDoorGI
import Derived.Test.YtlhlkbbjmbpgpaaDoorJDrawK
import Derived.Test.YtlhlkbbjmbpgpaaDoorJKeyM
import Derived.Test.YtlhlkbbjmbpgpaaDoorJKeyM2
import Derived.Test.YtlhlkbbjmbpgpaaDoorJLInOut
import Derived.Test.YtlhlkbbjmbpgpaaDoorJOpOkI
import Derived.Deep.RegionHeld3
namespace Go.Proofs.YtlhlkbbjmbpgpaaDoor
open Go.ChangeShapes Go.WideShapes Go.ChangeAt Go.RowKit Go.Joins

theorem keyOut_yes {rs : List RowD} {id : Int} (h : koutB rs id = true) : OpFit (koutO rs id) ∧ opokB (koutO rs id) = true ∧ treeB (doT rs (koutO rs id)) = true ∧ upI (doT rs (koutO rs id)) id = upI rs (upI rs id) ∧ ahI (doT rs (koutO rs id)) id = upI rs id ∧ atN (doT rs (koutO rs id)) id < (doT rs (koutO rs id)).length ∧ atN rs id < rs.length ∧ (rat (doT rs (koutO rs id)) (atN (doT rs (koutO rs id)) id)).dep = (rat rs (atN rs id)).dep - 1 := by
  obtain ⟨ht, hm, hid, hu, e1, e2, _⟩ := kout_parts h
  obtain ⟨f1, f2, f3, f4, f5⟩ := out_facts h
  refine ⟨kout_fit h, kout_ok h, kout_tree h, by rw [f2, e1, e2], by rw [f4, e1], (hasB_iff.1 f1).2, there_iff.1 hid, f5⟩
theorem keyOut_no {rs : List RowD} {id : Int} (h : koutB rs id = false) : hasB rs id = false ∨ upI rs id = 0 ∨ whoI (upI rs id) = 0 := by
  cases hh : hasB rs id
  · exact .inl rfl
  · right
    by_cases h0 : upI rs id = 0
    · exact .inl h0
    · right
      cases hu : madeB (upI rs id)
      · unfold whoI; rw [hu]; rfl
      · exfalso
        obtain ⟨ht, hl⟩ := hasB_iff.1 hh
        cases hm : madeB id
        · have hr := rootB_made hh
          rw [hm] at hr
          have d0 := (rok_root ((treeP_of ht).rok _ hl)).2 (by rw [atN_id hl]; exact hr)
          refine h0 ?_
          unfold upI
          rw [hh, if_pos rfl]
          unfold upAt
          rw [lstBelow_mk_none _ _ (fun j hj => ?_)]
          simp only [decide_eq_false_iff_not, Int.not_lt]
          have := (rok_dep ((treeP_of ht).rok j (by omega))).1
          show (rat rs (atN rs id)).dep ≤ (rat rs j).dep
          omega
        · unfold koutB at h
          rw [hh, hm, hu] at h; cases h
theorem fnKeyOut_long (a0 : Option Addr) (len0 cap0 : Nat) (w : World) (h : ¬ (len0 : Int) ≤ 1048576) :
    Calls Tryd.prog 15 #[.slice a0 len0 cap0] w fun e w' => e = .returned (.bool true) ∧ Below w.heap.size w w' := by
  go_enter Tryd.func15, Tryd.ntmps15
  go_wp2
  go_ret
  exact ⟨rfl, Below.refl _ _⟩
set_option maxRecDepth 100000 in
set_option maxHeartbeats 4000000 in
theorem fnKeyOut_walk (w : World) (ht : Tab w) (a0 : Option Addr) (len0 cap0 : Nat) (b0 : Bytes w a0 len0 cap0) :
    Calls Tryd.prog 15 #[.slice a0 len0 cap0] w fun e w' => e = .returned (.bool true) ∧ Below w.heap.size w w' := by
  have hz := ht.pos
  by_cases hlens : (len0 : Int) ≤ 1048576
  · go_enter Tryd.func15, Tryd.ntmps15
    go_wp2_with fail
    refine (drawKeyOut_any _ _ _ _ b0).mono ?_
    rintro e w1 ⟨a, cap, rs, id, rfl, id0, id1, hl, hb1⟩
    have hlen := hl.len
    have hcap := hl.cap
    have hfit := Lib.hid hl.fit
    have hI : Hid (I64 id) := ⟨by omega, by omega⟩
    have hr1 := hl.rows
    clear hl b0
    have HS : Hid (∀ x, RowsAt x.heap.size x a rs → Calls Tryd.prog 45 #[.slice a rs.length cap, .int .i64 id] x (RetBelow (keyV (koutO rs id) (koutB rs id)) x)) := fun x h => specKeyOut_any _ a cap rs id x (Nat.le_refl _) h hfit.out hI.out
    have HM : Hid (∀ x, RowsAt x.heap.size x a rs → Tab x → Calls Tryd.prog 46 #[.slice a rs.length cap, .int .i64 id] x (RetBelow (keyV (koutO rs id) (koutB rs id)) x)) := fun x h1 h2 => implKeyOut_any _ a cap rs id x (Nat.le_refl _) h1 hfit.out h2
    have HD : Hid ((koutB rs id) = true → OpFit (koutO rs id) ∧ opokB (koutO rs id) = true ∧ treeB (doT rs (koutO rs id)) = true ∧ upI (doT rs (koutO rs id)) id = upI rs (upI rs id) ∧ ahI (doT rs (koutO rs id)) id = upI rs id ∧ atN (doT rs (koutO rs id)) id < (doT rs (koutO rs id)).length ∧ atN rs id < rs.length ∧ (rat (doT rs (koutO rs id)) (atN (doT rs (koutO rs id)) id)).dep = (rat rs (atN rs id)).dep - 1) := fun h => keyOut_yes h
    have HN : Hid ((koutB rs id) = false → hasB rs id = false ∨ upI rs id = 0 ∨ whoI (upI rs id) = 0) := fun h => keyOut_no h
    generalize koutO rs id = o at *
    generalize koutB rs id = b at *
    simp only [keyV] at HS HM
    go_wp2_with fail
    refine (HS.out _ hr1).mono ?_
    rintro e w2 ⟨rfl, hb2⟩
    have hal2 : Below w2.heap.size w2 (w2.alloc (.cells #[.int .i64 o.kind, .int .i64 o.id, .int .i64 o.up, .int .i64 o.at_, .string o.txt] 25)) := (Below.refl _ _).alloc (Nat.le_refl _) _
    have c2 := hb2.trans (hal2.mono hb2.size)
    have hr2 := (hr1.below c2).mono c2.size
    have b2 := hb1.trans (c2.mono hb1.size)
    have ht2 := ht.below b2 hz
    have k2 := OBox.new w2 o
    clear hb2 hal2 c2 hr1 hb1
    go_wp2_with fail
    refine (HM.out _ hr2 ht2).mono ?_
    rintro e w3 ⟨rfl, hb3⟩
    have hal3 : Below w3.heap.size w3 (w3.alloc (.cells #[.int .i64 o.kind, .int .i64 o.id, .int .i64 o.up, .int .i64 o.at_, .string o.txt] 25)) := (Below.refl _ _).alloc (Nat.le_refl _) _
    have c3 := hb3.trans (hal3.mono hb3.size)
    have hr3 := (hr2.below c3).mono c3.size
    have b3 := b2.trans (c3.mono b2.size)
    have ht3 := ht.below b3 hz
    have k3 := k2.below c3 k2.lt
    have j3 := OBox.new w3 o
    have HBK : Hid (∀ x, Below (w3.alloc (.cells #[.int .i64 o.kind, .int .i64 o.id, .int .i64 o.up, .int .i64 o.at_, .string o.txt] 25)).heap.size (w3.alloc (.cells #[.int .i64 o.kind, .int .i64 o.id, .int .i64 o.up, .int .i64 o.at_, .string o.txt] 25)) x → OBox x w2.heap.size o ∧ OBox x w3.heap.size o) := fun x hx => ⟨k3.below hx k3.lt, j3.below hx j3.lt⟩
    have c30 : Below (w3.alloc (.cells #[.int .i64 o.kind, .int .i64 o.id, .int .i64 o.up, .int .i64 o.at_, .string o.txt] 25)).heap.size (w3.alloc (.cells #[.int .i64 o.kind, .int .i64 o.id, .int .i64 o.up, .int .i64 o.at_, .string o.txt] 25)) (w3.alloc (.cells #[.int .i64 o.kind, .int .i64 o.id, .int .i64 o.up, .int .i64 o.at_, .string o.txt] 25)) := Below.refl _ _
    obtain ⟨x0, x1, x2, x3, x4⟩ := k3.cells
    obtain ⟨y0, y1, y2, y3, y4⟩ := j3.cells
    clear hb3 hal3 c3 hr2 b2 ht2 k2 k3 j3
    go_wp2_with fail
    refine (specTreeOk_any _ _ _ _ _ (Nat.le_refl _) hr3 hfit.out).mono ?_
    rintro e w5 ⟨rfl, hb5⟩
    have hr5 := (hr3.below hb5).mono hb5.size
    have b5 := b3.trans (hb5.mono b3.size)
    have c5 := c30.trans (hb5.mono (Nat.le_refl _))
    have ht5 := ht.below b5 hz
    clear hb5 hr3 b3 ht3 c30 x0 x1 x2 x3 x4 y0 y1 y2 y3 y4
    obtain ⟨k5, j5⟩ := HBK.out w5 c5
    obtain ⟨x0, x1, x2, x3, x4⟩ := k5.cells
    obtain ⟨y0, y1, y2, y3, y4⟩ := j5.cells
    clear k5 j5
    cases hT : treeB rs
    · go_wp2
      go_ret
      exact ⟨by first | rfl | simp, b5⟩
    · have HU := Lib.hid (implTreeUp_any _ a cap rs id _ (Nat.le_refl _) hr5 hfit.out ht5)
      have HU2 : Hid (∀ x, RowsAt x.heap.size x a rs → Tab x → Calls Tryd.prog 33 #[.slice a rs.length cap, .int .i64 (upI rs id)] x (RetBelow (.tuple #[.int .i64 (upI rs (upI rs id)), .bool (hasB rs (upI rs id))]) x)) := fun x h1 h2 => implTreeUp_any _ a cap rs _ x (Nat.le_refl _) h1 hfit.out h2
      have HTP : Hid (atN rs id < rs.length → 0 ≤ (rat rs (atN rs id)).dep ∧ (rat rs (atN rs id)).dep ≤ 18) := fun h => rok_dep ((treeP_of hT).rok _ h)
      generalize upI rs (upI rs id) = over at *
      generalize hasB rs (upI rs id) = hs2 at *
      generalize upI rs id = up at *
      generalize hasB rs id = hs at *
      go_wp2_with fail
      refine HU.out.mono ?_
      rintro e w6 ⟨rfl, hb6⟩
      have hr6 := (hr5.below hb6).mono hb6.size
      have b6 := b5.trans (hb6.mono b5.size)
      have c6 := c5.trans (hb6.mono c5.size)
      have ht6 := ht.below b6 hz
      clear hb6 hr5 b5 ht5 c5 x0 x1 x2 x3 x4 y0 y1 y2 y3 y4 HU
      obtain ⟨k6, j6⟩ := HBK.out w6 c6
      obtain ⟨y0, y1, y2, y3, y4⟩ := j6.cells
      clear k6 j6
      go_wp2_with fail
      refine (implRowWho_any up _ ht6).mono ?_
      rintro e w' ⟨rfl, rfl⟩
      cases b
      · rcases HN.out rfl with h | h | h
        · subst h
          go_wp2
          all_goals
            go_ret
            exact ⟨by first | rfl | simp, b6⟩
        · subst h
          go_wp2
          all_goals
            go_ret
            exact ⟨by first | rfl | simp, b6⟩
        · rw [h]
          go_wp2
          all_goals
            go_ret
            exact ⟨by first | rfl | simp, b6⟩
      · obtain ⟨d1, d2, d3, d4, d5, d6, d7, d8⟩ := HD.out rfl
        have hrl : (doT rs o).length ≤ 1048576 := by have := doT_len rs o; omega
        have HFX := Lib.hid (tree_fit d3 hrl)
        obtain ⟨t1, t2⟩ := HTP.out d7
        have HO : Hid (∀ x, RowsAt x.heap.size x a rs → Tab x → Calls Tryd.prog 29 #[.slice a rs.length cap, .agg #[.int .i64 o.kind, .int .i64 o.id, .int .i64 o.up, .int .i64 o.at_, .string o.txt]] x (RetOwn (doT rs o) x)) := fun x h1 h2 => implOpDo_any _ a cap rs o x (Nat.le_refl _) h1 hfit.out d1 h2
        have HOK : Hid (∀ x, Tab x → Calls Tryd.prog 37 #[.agg #[.int .i64 o.kind, .int .i64 o.id, .int .i64 o.up, .int .i64 o.at_, .string o.txt]] x (RetBelow (.bool true) x)) := by
          intro x h1
          have h3 := implOpOk_any o x h1 d1.txt
          rwa [d2] at h3
        have HX1 : Hid (∀ x xa xc, RowsAt x.heap.size x xa (doT rs o) → Tab x → Calls Tryd.prog 33 #[.slice xa (doT rs o).length xc, .int .i64 id] x (RetBelow (.tuple #[.int .i64 over, .bool (hasB (doT rs o) id)]) x)) := by
          intro x xa xc h1 h2
          have h3 := implTreeUp_any _ xa xc (doT rs o) id x (Nat.le_refl _) h1 HFX.out h2
          rwa [d4] at h3
        have HX2 : Hid (∀ x xa xc, RowsAt x.heap.size x xa (doT rs o) → Tab x → Calls Tryd.prog 34 #[.slice xa (doT rs o).length xc, .int .i64 id] x (RetBelow (.tuple #[.int .i64 up, .bool (ahB (doT rs o) id)]) x)) := by
          intro x xa xc h1 h2
          have h3 := implTreeAhead_any _ xa xc (doT rs o) id x (Nat.le_refl _) h1 HFX.out h2
          rwa [d5] at h3
        have HA1 : Hid (∀ x xa xc, RowsAt x.heap.size x xa (doT rs o) → Calls Tryd.prog 24 #[.slice xa (doT rs o).length xc, .int .i64 id] x fun e w' => e = .returned (.int .i64 (atN (doT rs o) id : Int)) ∧ x = w') := by
          intro x xa xc h1
          have h3 := lpAt_any x.heap.size xa xc (doT rs o) id x h1 HFX.out
          rwa [atI_pos d6] at h3
        have HA2 : Hid (∀ x, RowsAt x.heap.size x a rs → Calls Tryd.prog 24 #[.slice a rs.length cap, .int .i64 id] x fun e w' => e = .returned (.int .i64 (atN rs id : Int)) ∧ x = w') := by
          intro x h1
          have h3 := lpAt_any x.heap.size a cap rs id x h1 hfit.out
          rwa [atI_pos d7] at h3
        clear HD HN HTP HFX d1 d2 d3 d4 d5 HS HM
        generalize hasB (doT rs o) id = hs3 at *
        generalize ahB (doT rs o) id = hs4 at *
        generalize doT rs o = res at *
        generalize atN res id = q1 at *
        generalize atN rs id = q2 at *
        go_wp2_with fail
        refine (HO.out _ hr6 ht6).mono ?_
        rintro e w7 ⟨xa, xc, rfl, own7, hxc, hb7⟩
        have hx7 := (got_own own7).rows
        have hr7 := (hr6.below hb7).mono hb7.size
        have b7 := b6.trans (hb7.mono b6.size)
        have c7 := c6.trans (hb7.mono c6.size)
        have ht7 := ht.below b7 hz
        clear own7 hb7 hr6 b6 ht6 c6 y0 y1 y2 y3 y4 HO
        go_wp2_with fail
        refine (HU2.out _ hr7 ht7).mono ?_
        rintro e w8 ⟨rfl, hb8⟩
        have hx8 := (hx7.below hb8).mono hb8.size
        have hr8 := (hr7.below hb8).mono hb8.size
        have b8 := b7.trans (hb8.mono b7.size)
        have c8 := c7.trans (hb8.mono c7.size)
        have ht8 := ht.below b8 hz
        clear hb8 hr7 b7 ht7 c7 hx7 HU2
        go_wp2_with fail
        refine (HX1.out _ _ _ hx8 ht8).mono ?_
        rintro e w9 ⟨rfl, hb9⟩
        have hx9 := (hx8.below hb9).mono hb9.size
        have hr9 := (hr8.below hb9).mono hb9.size
        have b9 := b8.trans (hb9.mono b8.size)
        have c9 := c8.trans (hb9.mono c8.size)
        have ht9 := ht.below b9 hz
        clear hb9 hr8 b8 ht8 c8 hx8 HX1
        go_wp2_with fail
        refine (HX2.out _ _ _ hx9 ht9).mono ?_
        rintro e w10 ⟨rfl, hb10⟩
        have hd10 : Below w10.heap.size w10 w10.drew := (Below.refl _ _).drew
        have hx10 : RowsAt w10.drew.heap.size w10.drew xa res := (((hx9.below hb10).mono hb10.size).below hd10).mono hd10.size
        have hr10 : RowsAt w10.drew.heap.size w10.drew a rs := (((hr9.below hb10).mono hb10.size).below hd10).mono hd10.size
        have b10 : Below w.heap.size w w10.drew := (b9.trans (hb10.mono b9.size)).trans (hd10.mono (b9.trans (hb10.mono b9.size)).size)
        have c10 := (c9.trans (hb10.mono c9.size)).trans (hd10.mono (c9.trans (hb10.mono c9.size)).size)
        have ht10 := ht.below b10 hz
        obtain ⟨k10, j10⟩ := HBK.out w10.drew c10
        obtain ⟨y0, y1, y2, y3, y4⟩ := j10.cells
        clear k10 j10 hb10 hr9 b9 ht9 c9 hx9 HX2
        obtain ⟨p1, f1, rfl, hpB1, v0, v1, v2⟩ := hx10.at_ d6
        obtain ⟨p2, f2, rfl, hpB2, u0, u1, u2⟩ := hr10.at_ d7
        have i1 : (q1 : Int) < (res.length : Int) := by omega
        have i2 : (q2 : Int) < (rs.length : Int) := by omega
        rw [d8] at v1
        have g8 : IntKind.i64.wrap ((rat rs q2).dep - 1) = (rat rs q2).dep - 1 := IntWalk.i64_in _ (by omega)
        go_wp2_with fail
        go_region_held3 (fun x : World => x.cell? ⟨w3.heap.size, 0, none⟩ = some (.int .i64 o.kind) ∧ x.cell? ⟨w3.heap.size, 1, none⟩ = some (.int .i64 o.id) ∧ x.cell? ⟨w3.heap.size, 2, none⟩ = some (.int .i64 o.up) ∧ x.cell? ⟨w3.heap.size, 3, none⟩ = some (.int .i64 o.at_) ∧ x.cell? ⟨w3.heap.size, 4, none⟩ = some (.string o.txt) ∧ x.cell? ⟨p1, f1 + q1 * 3 + 1, none⟩ = some (.int .i64 ((rat rs q2).dep - 1)) ∧ x.cell? ⟨p2, f2 + q2 * 3 + 1, none⟩ = some (.int .i64 (rat rs q2).dep)) (first | exact ⟨y0, y1, y2, y3, y4, v1, u1⟩ | exact ⟨z0, z1, z2, z3, z4, s1, s2⟩) (first
          | (go_at_call 37; refine (HOK.out _ ht10).mono ?_; rintro e w11 ⟨rfl, hb11⟩; have s1 := (hb11.cell (p := ⟨p1, f1 + q1 * 3 + 1, none⟩) hpB1).trans v1; have s2 := (hb11.cell (p := ⟨p2, f2 + q2 * 3 + 1, none⟩) hpB2).trans u1; have hx11 := (hx10.below hb11).mono hb11.size; have hr11 := (hr10.below hb11).mono hb11.size; have b11 := b10.trans (hb11.mono b10.size); have c11 := c10.trans (hb11.mono c10.size); obtain ⟨k11, j11⟩ := HBK.out w11 c11; obtain ⟨z0, z1, z2, z3, z4⟩ := j11.cells)
          | (go_at_call 24; (with_reducible refine (HA1.out _ _ _ hx11).mono ?_); rintro e w' ⟨rfl, rfl⟩)
          | (go_at_call 24; (with_reducible refine (HA2.out _ hr11).mono ?_); rintro e w' ⟨rfl, rfl⟩))
        all_goals
          go_wp2
          go_ret
          exact ⟨by first | rfl | simp, b11⟩
  · exact fnKeyOut_long _ _ _ _ hlens
end Go.Proofs.YtlhlkbbjmbpgpaaDoor
