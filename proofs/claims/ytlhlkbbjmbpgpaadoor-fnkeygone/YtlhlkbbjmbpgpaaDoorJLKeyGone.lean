/-
  The walk of the law FnKeyGone out of the contracts. Conditions: the argument reads as bytes; the table 'creators' holds what its initialiser lays.
-/
import Derived.Test.YtlhlkbbjmbpgpaaDoorGI
import Derived.Test.YtlhlkbbjmbpgpaaDoorJDrawK
import Derived.Test.YtlhlkbbjmbpgpaaDoorJKeyM
import Derived.Test.YtlhlkbbjmbpgpaaDoorJKeyM3
import Derived.Test.YtlhlkbbjmbpgpaaDoorJLInOut
import Derived.Test.YtlhlkbbjmbpgpaaDoorGB
import Derived.Deep.RegionHeld3
namespace Go.Proofs.YtlhlkbbjmbpgpaaDoor
open Go.ChangeShapes Go.WideShapes Go.ChangeAt Go.RowKit Go.Joins

theorem kgone_fit {rs : List RowD} {id : Int} (h : kgoneB rs id = true) : OpFit (kgoneO rs id) := by
  obtain ⟨_, hm, _, e, _⟩ := kgone_parts h
  rw [e]; exact move_fit hm (by decide) (.inl rfl)
theorem at_below {P : Program} {f : FuncId} {args : Array Value} {w : World} {v : Value} (h : Calls P f args w fun e w' => e = .returned v ∧ w = w') : Calls P f args w (RetBelow v w) :=
  h.mono fun _ _ ⟨he, hw⟩ => ⟨he, hw ▸ Below.refl _ _⟩
theorem fnKeyGone_long (a0 : Option Addr) (len0 cap0 : Nat) (w : World) (h : ¬ (len0 : Int) ≤ 1048576) :
    Calls Tryd.prog 16 #[.slice a0 len0 cap0] w fun e w' => e = .returned (.bool true) ∧ Below w.heap.size w w' := by
  go_enter Tryd.func16, Tryd.ntmps16
  go_wp2
  go_ret
  exact ⟨rfl, Below.refl _ _⟩
set_option maxRecDepth 100000 in
set_option maxHeartbeats 4000000 in
theorem fnKeyGone_walk (w : World) (ht : Tab w) (a0 : Option Addr) (len0 cap0 : Nat) (b0 : Bytes w a0 len0 cap0) :
    Calls Tryd.prog 16 #[.slice a0 len0 cap0] w fun e w' => e = .returned (.bool true) ∧ Below w.heap.size w w' := by
  have hz := ht.pos
  by_cases hlens : (len0 : Int) ≤ 1048576
  · go_enter Tryd.func16, Tryd.ntmps16
    go_wp2_with fail
    refine (drawKeyGone_any _ _ _ _ b0).mono ?_
    rintro e w1 ⟨a, cap, rs, id, rfl, id0, id1, hl, hb1⟩
    have hlen := hl.len
    have hcap := hl.cap
    have hfit := Lib.hid hl.fit
    have hI : Hid (I64 id) := ⟨by omega, by omega⟩
    have hr1 := hl.rows
    clear hl b0
    have HS : Hid (∀ x, RowsAt x.heap.size x a rs → Calls Tryd.prog 49 #[.slice a rs.length cap, .int .i64 id] x (RetBelow (keyV (kgoneO rs id) (kgoneB rs id)) x)) := fun x h => specKeyGone_any _ a cap rs id x (Nat.le_refl _) h hfit.out hI.out
    have HM : Hid (∀ x, RowsAt x.heap.size x a rs → Tab x → Calls Tryd.prog 50 #[.slice a rs.length cap, .int .i64 id] x (RetBelow (keyV (kgoneO rs id) (kgoneB rs id)) x)) := fun x h1 h2 => implKeyGone_any _ a cap rs id x (Nat.le_refl _) h1 hfit.out h2
    have HD : Hid ((kgoneB rs id) = true → OpFit (kgoneO rs id) ∧ treeB (doT rs (kgoneO rs id)) = true ∧ (∀ i, i < rs.length → undT rs (rat rs i).id id = true → undT (doT rs (kgoneO rs id)) (rat rs i).id 2 = true) ∧ kgoneB (doT rs (kgoneO rs id)) id = false ∧ (doT rs (kgoneO rs id)).length = rs.length ∧ ∀ i, i < (doT rs (kgoneO rs id)).length → atN rs (rat (doT rs (kgoneO rs id)) i).id < rs.length) := fun h => ⟨kgone_fit h, kgone_tree h, (gone_under h).1, (gone_under h).2, (gone_same h).1, (gone_same h).2⟩
    have HN : Hid (treeB rs = true → (kgoneB rs id) = false → whoI id = 0 ∨ atI rs id < 0 ∨ undT rs id 2 = true) := fun h1 h2 => gone_no h1 h2
    generalize kgoneO rs id = o at *
    generalize kgoneB rs id = b at *
    simp only [keyV] at HS HM
    go_wp2_with fail
    refine (HS.out _ hr1).mono ?_
    rintro e w2 ⟨rfl, hb2⟩
    have hal2 : Below w2.heap.size w2 (w2.alloc (.cells #[.int .i64 o.kind, .int .i64 o.id, .int .i64 o.up, .int .i64 o.at_, .string o.txt] 25)) := (Below.refl _ _).alloc (Nat.le_refl _) _
    have c2 := hb2.trans (hal2.mono hb2.size)
    have hr2 := (hr1.below c2).mono c2.size
    have b2 := hb1.trans (c2.mono hb1.size)
    have ht2 := ht.below b2 hz
    have k2 := OBox.new w2 o
    clear hb2 hal2 c2 hr1 hb1
    go_wp2_with fail
    refine (HM.out _ hr2 ht2).mono ?_
    rintro e w3 ⟨rfl, hb3⟩
    have hal3 : Below w3.heap.size w3 (w3.alloc (.cells #[.int .i64 o.kind, .int .i64 o.id, .int .i64 o.up, .int .i64 o.at_, .string o.txt] 25)) := (Below.refl _ _).alloc (Nat.le_refl _) _
    have c3 := hb3.trans (hal3.mono hb3.size)
    have hr3 := (hr2.below c3).mono c3.size
    have b3 := b2.trans (c3.mono b2.size)
    have ht3 := ht.below b3 hz
    have k3 := k2.below c3 k2.lt
    have j3 := OBox.new w3 o
    have HBK : Hid (∀ x, Below (w3.alloc (.cells #[.int .i64 o.kind, .int .i64 o.id, .int .i64 o.up, .int .i64 o.at_, .string o.txt] 25)).heap.size (w3.alloc (.cells #[.int .i64 o.kind, .int .i64 o.id, .int .i64 o.up, .int .i64 o.at_, .string o.txt] 25)) x → OBox x w2.heap.size o ∧ OBox x w3.heap.size o) := fun x hx => ⟨k3.below hx k3.lt, j3.below hx j3.lt⟩
    have c30 : Below (w3.alloc (.cells #[.int .i64 o.kind, .int .i64 o.id, .int .i64 o.up, .int .i64 o.at_, .string o.txt] 25)).heap.size (w3.alloc (.cells #[.int .i64 o.kind, .int .i64 o.id, .int .i64 o.up, .int .i64 o.at_, .string o.txt] 25)) (w3.alloc (.cells #[.int .i64 o.kind, .int .i64 o.id, .int .i64 o.up, .int .i64 o.at_, .string o.txt] 25)) := Below.refl _ _
    obtain ⟨x0, x1, x2, x3, x4⟩ := k3.cells
    obtain ⟨y0, y1, y2, y3, y4⟩ := j3.cells
    clear hb3 hal3 c3 hr2 b2 ht2 k2 k3 j3
    go_wp2_with fail
    refine (specTreeOk_any _ _ _ _ _ (Nat.le_refl _) hr3 hfit.out).mono ?_
    rintro e w5 ⟨rfl, hb5⟩
    have hr5 := (hr3.below hb5).mono hb5.size
    have b5 := b3.trans (hb5.mono b3.size)
    have c5 := c30.trans (hb5.mono (Nat.le_refl _))
    have ht5 := ht.below b5 hz
    clear hb5 hr3 b3 ht3 c30 x0 x1 x2 x3 x4 y0 y1 y2 y3 y4
    obtain ⟨k5, j5⟩ := HBK.out w5 c5
    obtain ⟨x0, x1, x2, x3, x4⟩ := k5.cells
    obtain ⟨y0, y1, y2, y3, y4⟩ := j5.cells
    clear k5 j5
    cases hT : treeB rs
    · go_wp2
      go_ret
      exact ⟨by first | rfl | simp, b5⟩
    · have HUN : Hid (∀ x, RowsAt x.heap.size x a rs → Tab x → Calls Tryd.prog 35 #[.slice a rs.length cap, .int .i64 id, .int .i64 2] x (RetBelow (.bool (undT rs id 2)) x)) := fun x h1 h2 => implTreeUnder_any _ a cap rs id 2 x (Nat.le_refl _) h1 hfit.out h2
      have HAT : Hid (∀ x, RowsAt x.heap.size x a rs → Calls Tryd.prog 24 #[.slice a rs.length cap, .int .i64 id] x (RetBelow (.int .i64 (atI rs id)) x)) := fun x h1 => at_below (lpAt_any x.heap.size a cap rs id x h1 hfit.out)
      go_wp2_with fail
      refine (implRowWho_any id _ ht5).mono ?_
      rintro e w' ⟨rfl, rfl⟩
      cases b
      · have hno := HN.out hT rfl
        clear HD HN HS HM HBK
        generalize whoI id = wh at *
        generalize whoB id = whb at *
        generalize atI rs id = ai at *
        generalize undT rs id 2 = un at *
        by_cases h1 : wh = 0
        · have h1' := beq_iff_eq.2 h1
          subst h1
          go_wp2
          go_ret
          exact ⟨by first | rfl | simp, b5⟩
        · have h1' : (wh == 0) = false := beq_eq_false_iff_ne.2 h1
          go_wp2_with fail
          refine (HAT.out _ hr5).mono ?_
          rintro e w6 ⟨rfl, hb6⟩
          have hr6 := (hr5.below hb6).mono hb6.size
          have b6 := b5.trans (hb6.mono b5.size)
          have ht6 := ht.below b6 hz
          by_cases h2 : ai < 0
          · go_wp2
            go_ret
            exact ⟨by first | rfl | simp, b6⟩
          · have h3 : un = true := by
              rcases hno with h | h | h
              · exact absurd h h1
              · exact absurd h h2
              · exact h
            subst h3
            go_wp2_with fail
            refine (HUN.out _ hr6 ht6).mono ?_
            rintro e w7 ⟨rfl, hb7⟩
            have b7 := b6.trans (hb7.mono b6.size)
            go_wp2
            go_ret
            exact ⟨by first | rfl | simp, b7⟩
      · obtain ⟨d1, d2, d3, d4, d5, d6⟩ := HD.out rfl
        have hrl : (doT rs o).length ≤ 1048576 := by have := doT_len rs o; omega
        have HFX := Lib.hid (tree_fit d2 hrl)
        have HO := Lib.hid (implOpDo_any _ a cap rs o w5 (Nat.le_refl _) hr5 hfit.out d1 ht5)
        have HU1 : Hid (∀ x i, RowsAt x.heap.size x a rs → Tab x → Calls Tryd.prog 35 #[.slice a rs.length cap, .int .i64 (rat rs i).id, .int .i64 id] x (RetBelow (.bool (undT rs (rat rs i).id id)) x)) := fun x i h1 h2 => implTreeUnder_any _ a cap rs _ id x (Nat.le_refl _) h1 hfit.out h2
        have HU2 : Hid (∀ x i xa xc, RowsAt x.heap.size x xa (doT rs o) → Tab x → Calls Tryd.prog 35 #[.slice xa (doT rs o).length xc, .int .i64 (rat rs i).id, .int .i64 2] x (RetBelow (.bool (undT (doT rs o) (rat rs i).id 2)) x)) := fun x i xa xc h1 h2 => implTreeUnder_any _ xa xc _ _ 2 x (Nat.le_refl _) h1 HFX.out h2
        have HG : Hid (∀ x xa xc, RowsAt x.heap.size x xa (doT rs o) → Tab x → Calls Tryd.prog 50 #[.slice xa (doT rs o).length xc, .int .i64 id] x (RetBelow (keyV (kgoneO (doT rs o) id) false) x)) := by
          intro x xa xc h1 h2
          have h3 := implKeyGone_any _ xa xc (doT rs o) id x (Nat.le_refl _) h1 HFX.out h2
          rwa [d4] at h3
        have HLS : Hid (∀ x xa xc, RowsAt x.heap.size x xa (doT rs o) → RowsAt x.heap.size x a rs → Calls Tryd.prog 51 #[.slice xa (doT rs o).length xc, .slice a rs.length cap] x (RetBelow (.bool true) x)) := fun x xa xc h1 h2 => at_below (lpSame_yes x.heap.size xa a xc cap _ rs x h1 h2 hfit.out hrl d5 d6)
        have HTO : Hid (∀ x xa xc, RowsAt x.heap.size x xa (doT rs o) → Tab x → Calls Tryd.prog 39 #[.slice xa (doT rs o).length xc] x (RetBelow (.bool true) x)) := by
          intro x xa xc h1 h2
          have h3 := implTreeOk_any _ xa xc (doT rs o) x (Nat.le_refl _) h1 HFX.out h2
          rwa [d2] at h3
        have HI3 := Lib.hid d3
        clear HD HN HS HM HBK HUN HAT HFX d1 d2 d3 d4 d5 d6
        generalize kgoneO (doT rs o) id = og at *
        generalize doT rs o = res at *
        simp only [keyV] at HG
        go_wp2_with fail
        refine HO.out.mono ?_
        rintro e w6 ⟨xa, xc, rfl, own6, hxc, hb6⟩
        have hx6 := (got_own own6).rows
        have hr6 := (hr5.below hb6).mono hb6.size
        have b6 := b5.trans (hb6.mono b5.size)
        clear own6 hb6 hr5 b5 ht5 c5 x0 x1 x2 x3 x4 y0 y1 y2 y3 y4 HO
        go_wp2_with fail
        go_loopw [12] (fun i wr => ∃ k : Nat, k ≤ rs.length ∧ i = .int .i64 k ∧ Below w6.heap.size w6 wr) (fun i _ => rs.length - (intOf i).toNat)
        case atStart => exact ⟨0, Nat.zero_le _, rfl, Below.refl _ _⟩
        case round =>
          obtain ⟨k, hk, rfl, hb⟩ := hrel
          have hr := (hr6.below hb).mono hb.size
          have hx := (hx6.below hb).mono hb.size
          have bw := b6.trans (hb.mono b6.size)
          have htw := ht.below bw hz
          by_cases hlt : k < rs.length
          · have i1 : (k : Int) < (rs.length : Int) := by omega
            obtain ⟨p, off, rfl, hpB, c0, _, _⟩ := hr.at_ hlt
            have HC1 := Lib.hid (HU1.out _ k hr htw)
            have HI := Lib.hid (HI3.out k hlt)
            cases hu : undT rs (rat rs k).id id
            · rw [hu] at HC1
              clear hr hx htw bw
              go_wp2_with fail
              refine HC1.out.mono ?_
              rintro e w7 ⟨rfl, hb7⟩
              have hb8 := hb.trans (hb7.mono hb.size)
              clear HC1 HI c0
              go_wp2
              go_roundw
              case rel => exact ⟨k + 1, by omega, by go_num, hb8⟩
              case measure => simp [intOf]; omega
            · rw [hu] at HC1
              have hy := HI.out hu
              go_wp2_with fail
              refine HC1.out.mono ?_
              rintro e w7 ⟨rfl, hb7⟩
              have hx7 := (hx.below hb7).mono hb7.size
              have c0' := (hb7.cell (p := ⟨p, off + k * 3, none⟩) hpB).trans c0
              have bw7 := bw.trans (hb7.mono bw.size)
              have HC2 := Lib.hid (HU2.out _ k _ xc hx7 (ht.below bw7 hz))
              rw [hy] at HC2
              have hb8 := hb.trans (hb7.mono hb.size)
              clear HC1 HI c0 hr hx htw bw bw7 hx7 hb7
              go_wp2_with fail
              refine HC2.out.mono ?_
              rintro e w8 ⟨rfl, hb9⟩
              have hb10 := hb8.trans (hb9.mono hb8.size)
              clear HC2 c0'
              go_wp2
              go_roundw
              case rel => exact ⟨k + 1, by omega, by go_num, hb10⟩
              case measure => simp [intOf]; omega
          · clear HU1 HU2 HI3
            go_wp2_with fail
            refine (HG.out _ _ _ hx htw).mono ?_
            rintro e w8 ⟨rfl, hb8⟩
            have hal8 : Below w8.heap.size w8 (w8.alloc (.cells #[.int .i64 og.kind, .int .i64 og.id, .int .i64 og.up, .int .i64 og.at_, .string og.txt] 25)) := (Below.refl _ _).alloc (Nat.le_refl _) _
            have h8 := hb8.trans (hal8.mono hb8.size)
            have hr8 := (hr.below h8).mono h8.size
            have hx8 := (hx.below h8).mono h8.size
            have b8 := bw.trans (h8.mono bw.size)
            have ht8 := ht.below b8 hz
            clear hb8 hal8 h8 hr hx bw htw
            go_wp2_with fail
            refine (HLS.out _ _ _ hx8 hr8).mono ?_
            rintro e w9 ⟨rfl, hb9⟩
            have hx9 := (hx8.below hb9).mono hb9.size
            have b9 := b8.trans (hb9.mono b8.size)
            have ht9 := ht.below b9 hz
            go_wp2_with fail
            refine (HTO.out _ _ _ hx9 ht9).mono ?_
            rintro e w10 ⟨rfl, hb10⟩
            have b10 := b9.trans (hb10.mono b9.size)
            go_wp2
            go_ret
            exact ⟨by first | rfl | simp, b10⟩
  · exact fnKeyGone_long _ _ _ _ hlens
end Go.Proofs.YtlhlkbbjmbpgpaaDoor
