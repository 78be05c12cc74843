/-
  The walk of the law FnGoneBack out of the contracts. Conditions: the argument reads as bytes; the table 'creators' holds what its initialiser lays.
-/
import Derived.Test.YtlhlkbbjmbpgpaaDoorGI
import Derived.Test.YtlhlkbbjmbpgpaaDoorJDrawK
import Derived.Test.YtlhlkbbjmbpgpaaDoorJKeyM
import Derived.Test.YtlhlkbbjmbpgpaaDoorJKeyM3
import Derived.Test.YtlhlkbbjmbpgpaaDoorJLInOut
import Derived.Test.YtlhlkbbjmbpgpaaDoorJKeyB
import Derived.Deep.RegionHeld3
namespace Go.Proofs.YtlhlkbbjmbpgpaaDoor
open Go.ChangeShapes Go.WideShapes Go.ChangeAt Go.RowKit Go.Joins

theorem gone_back {rs : List RowD} {id : Int} (h : kgoneB rs id = true) : OpFit (kgoneO rs id) ∧ opokB (kgoneO rs id) = true ∧ treeB rs = true ∧ (kgoneO rs id).kind = 3 ∧ thereB rs (kgoneO rs id).id = true ∧ doT rs (kgoneO rs id) ≠ rs ∧ treeB (doT rs (kgoneO rs id)) = true ∧ OpFit (moveO (kgoneO rs id).id (upAt rs (atN rs (kgoneO rs id).id)) (ahAt rs (atN rs (kgoneO rs id).id))) ∧ doT (doT rs (kgoneO rs id)) (moveO (kgoneO rs id).id (upAt rs (atN rs (kgoneO rs id).id)) (ahAt rs (atN rs (kgoneO rs id).id))) = rs := by
  have hok := kgone_ok h
  have hx := kgone_tree h
  have hne : doT rs (kgoneO rs id) ≠ rs := fun g => by
    have := (gone_under h).2
    rw [g, h] at this; cases this
  obtain ⟨ht, hm, hid, e, _⟩ := kgone_parts h
  have hw := (up_facts ht hm hid).2.2
  have ha : ahAt rs (atN rs id) = 0 ∨ madeB (ahAt rs (atN rs id)) = true := by
    by_cases q : ahAt rs (atN rs id) = 0
    · exact .inl q
    · exact .inr (ahead_facts ht hm hid q).2.2.2.1
  have hf : OpFit (kgoneO rs id) := by rw [e]; exact move_fit hm (by decide) (.inl rfl)
  rw [doT_is ht hok] at hx hne ⊢
  rw [e] at hok hx hne hf ⊢
  refine ⟨hf, hok, ht, rfl, hid, hne, hx, move_fit hm hw ha, ?_⟩
  show doT (doR rs (moveO id 2 0)) (moveO id (upAt rs (atN rs id)) (ahAt rs (atN rs id))) = rs
  rw [doT_is hx (opok_move hm hw ha)]
  exact move_back ht hok rfl hid rfl rfl rfl rfl
theorem fnGoneBack_long (a0 : Option Addr) (len0 cap0 : Nat) (w : World) (h : ¬ (len0 : Int) ≤ 1048576) :
    Calls Tryd.prog 20 #[.slice a0 len0 cap0] w fun e w' => e = .returned (.bool true) ∧ Below w.heap.size w w' := by
  go_enter Tryd.func20, Tryd.ntmps20
  go_wp2
  go_ret
  exact ⟨rfl, Below.refl _ _⟩
set_option maxRecDepth 100000 in
set_option maxHeartbeats 4000000 in
theorem fnGoneBack_walk (w : World) (ht : Tab w) (a0 : Option Addr) (len0 cap0 : Nat) (b0 : Bytes w a0 len0 cap0) :
    Calls Tryd.prog 20 #[.slice a0 len0 cap0] w fun e w' => e = .returned (.bool true) ∧ Below w.heap.size w w' := by
  have hz := ht.pos
  by_cases hlens : (len0 : Int) ≤ 1048576
  · go_enter Tryd.func20, Tryd.ntmps20
    go_wp2_with fail
    refine (drawKeyGone_any _ _ _ _ b0).mono ?_
    rintro e w1 ⟨a, cap, rs, id, rfl, id0, id1, hl, hb1⟩
    have hlen := hl.len
    have hcap := hl.cap
    have hfit := Lib.hid hl.fit
    have hI : Hid (I64 id) := ⟨by omega, by omega⟩
    have hr1 := hl.rows
    clear hl b0
    have HS : Hid (∀ x, RowsAt x.heap.size x a rs → Calls Tryd.prog 49 #[.slice a rs.length cap, .int .i64 id] x (RetBelow (keyV (kgoneO rs id) (kgoneB rs id)) x)) := fun x h => specKeyGone_any _ a cap rs id x (Nat.le_refl _) h hfit.out hI.out
    have HM : Hid (∀ x, RowsAt x.heap.size x a rs → Tab x → Calls Tryd.prog 50 #[.slice a rs.length cap, .int .i64 id] x (RetBelow (keyV (kgoneO rs id) (kgoneB rs id)) x)) := fun x h1 h2 => implKeyGone_any _ a cap rs id x (Nat.le_refl _) h1 hfit.out h2
    have HD : Hid ((kgoneB rs id) = true → OpFit (kgoneO rs id) ∧ opokB (kgoneO rs id) = true ∧ treeB rs = true ∧ ((kgoneO rs id)).kind = 3 ∧ thereB rs ((kgoneO rs id)).id = true ∧ doT rs (kgoneO rs id) ≠ rs ∧ treeB (doT rs (kgoneO rs id)) = true ∧ OpFit (moveO ((kgoneO rs id)).id (upAt rs (atN rs ((kgoneO rs id)).id)) (ahAt rs (atN rs ((kgoneO rs id)).id))) ∧ doT (doT rs (kgoneO rs id)) (moveO ((kgoneO rs id)).id (upAt rs (atN rs ((kgoneO rs id)).id)) (ahAt rs (atN rs ((kgoneO rs id)).id))) = rs) := fun h => gone_back h
    generalize kgoneO rs id = o at *
    generalize kgoneB rs id = b at *
    simp only [keyV] at HS HM
    go_wp2_with fail
    refine (HS.out _ hr1).mono ?_
    rintro e w2 ⟨rfl, hb2⟩
    have hal2 : Below w2.heap.size w2 (w2.alloc (.cells #[.int .i64 o.kind, .int .i64 o.id, .int .i64 o.up, .int .i64 o.at_, .string o.txt] 25)) := (Below.refl _ _).alloc (Nat.le_refl _) _
    have c2 := hb2.trans (hal2.mono hb2.size)
    have hr2 := (hr1.below c2).mono c2.size
    have b2 := hb1.trans (c2.mono hb1.size)
    have ht2 := ht.below b2 hz
    have k2 := OBox.new w2 o
    clear hb2 hal2 c2 hr1 hb1
    go_wp2_with fail
    refine (HM.out _ hr2 ht2).mono ?_
    rintro e w3 ⟨rfl, hb3⟩
    have hal3 : Below w3.heap.size w3 (w3.alloc (.cells #[.int .i64 o.kind, .int .i64 o.id, .int .i64 o.up, .int .i64 o.at_, .string o.txt] 25)) := (Below.refl _ _).alloc (Nat.le_refl _) _
    have c3 := hb3.trans (hal3.mono hb3.size)
    have hr3 := (hr2.below c3).mono c3.size
    have b3 := b2.trans (c3.mono b2.size)
    have ht3 := ht.below b3 hz
    have k3 := k2.below c3 k2.lt
    have j3 := OBox.new w3 o
    have HBK : Hid (∀ x, Below (w3.alloc (.cells #[.int .i64 o.kind, .int .i64 o.id, .int .i64 o.up, .int .i64 o.at_, .string o.txt] 25)).heap.size (w3.alloc (.cells #[.int .i64 o.kind, .int .i64 o.id, .int .i64 o.up, .int .i64 o.at_, .string o.txt] 25)) x → OBox x w2.heap.size o ∧ OBox x w3.heap.size o) := fun x hx => ⟨k3.below hx k3.lt, j3.below hx j3.lt⟩
    have c30 : Below (w3.alloc (.cells #[.int .i64 o.kind, .int .i64 o.id, .int .i64 o.up, .int .i64 o.at_, .string o.txt] 25)).heap.size (w3.alloc (.cells #[.int .i64 o.kind, .int .i64 o.id, .int .i64 o.up, .int .i64 o.at_, .string o.txt] 25)) (w3.alloc (.cells #[.int .i64 o.kind, .int .i64 o.id, .int .i64 o.up, .int .i64 o.at_, .string o.txt] 25)) := Below.refl _ _
    obtain ⟨x0, x1, x2, x3, x4⟩ := k3.cells
    obtain ⟨y0, y1, y2, y3, y4⟩ := j3.cells
    clear hb3 hal3 c3 hr2 b2 ht2 k2 k3 j3
    cases b
    · go_wp2
      go_ret
      exact ⟨by first | rfl | simp, b3⟩
    · obtain ⟨d1, d2, d3, d4, d5, d6, d7, d8, d9⟩ := HD.out rfl
      have hrl : (doT rs o).length ≤ 1048576 := by have := doT_len rs o; omega
      have hfx := tree_fit d7 hrl
      have HKB := Lib.hid (keyBack_move _ a cap rs o _ (Nat.le_refl _) hr3 hfit.out d1 ht3 d2 d3 d6 d4 d5)
      have HO : Hid (∀ x, RowsAt x.heap.size x a rs → Tab x → Calls Tryd.prog 29 #[.slice a rs.length cap, .agg #[.int .i64 o.kind, .int .i64 o.id, .int .i64 o.up, .int .i64 o.at_, .string o.txt]] x (RetOwn (doT rs o) x)) := fun x h1 h2 => implOpDo_any _ a cap rs o x (Nat.le_refl _) h1 hfit.out d1 h2
      have HQ : Hid (∀ x xa xc, RowsAt x.heap.size x xa (doT rs o) → Tab x → Calls Tryd.prog 29 #[.slice xa (doT rs o).length xc, .agg #[.int .i64 (moveO o.id (upAt rs (atN rs o.id)) (ahAt rs (atN rs o.id))).kind, .int .i64 (moveO o.id (upAt rs (atN rs o.id)) (ahAt rs (atN rs o.id))).id, .int .i64 (moveO o.id (upAt rs (atN rs o.id)) (ahAt rs (atN rs o.id))).up, .int .i64 (moveO o.id (upAt rs (atN rs o.id)) (ahAt rs (atN rs o.id))).at_, .string (moveO o.id (upAt rs (atN rs o.id)) (ahAt rs (atN rs o.id))).txt]] x (RetOwn rs x)) := by
        intro x xa xc h1 h2
        have h3 := implOpDo_any _ xa xc (doT rs o) _ x (Nat.le_refl _) h1 hfx d8 h2
        rwa [d9] at h3
      clear HD d1 d2 d3 d4 d5 d6 d7 d8 d9 hfx HS HM
      generalize moveO o.id (upAt rs (atN rs o.id)) (ahAt rs (atN rs o.id)) = p at *
      generalize doT rs o = res at *
      simp only [keyV] at HKB
      go_wp2_with fail
      refine HKB.out.mono ?_
      rintro e w5 ⟨rfl, hb5⟩
      have hal5 : Below w5.heap.size w5 (w5.alloc (.cells #[.int .i64 p.kind, .int .i64 p.id, .int .i64 p.up, .int .i64 p.at_, .string p.txt] 25)).drew := ((Below.refl _ _).alloc (Nat.le_refl _) _).drew
      have h5 := hb5.trans (hal5.mono hb5.size)
      have hr5 : RowsAt (w5.alloc (.cells #[.int .i64 p.kind, .int .i64 p.id, .int .i64 p.up, .int .i64 p.at_, .string p.txt] 25)).drew.heap.size (w5.alloc (.cells #[.int .i64 p.kind, .int .i64 p.id, .int .i64 p.up, .int .i64 p.at_, .string p.txt] 25)).drew a rs := (hr3.below h5).mono h5.size
      have b5 : Below w.heap.size w (w5.alloc (.cells #[.int .i64 p.kind, .int .i64 p.id, .int .i64 p.up, .int .i64 p.at_, .string p.txt] 25)).drew := b3.trans (h5.mono b3.size)
      have c5 := c30.trans (h5.mono (Nat.le_refl _))
      have ht5 := ht.below b5 hz
      have q5 : OBox (w5.alloc (.cells #[.int .i64 p.kind, .int .i64 p.id, .int .i64 p.up, .int .i64 p.at_, .string p.txt] 25)).drew w5.heap.size p := OBox.new w5 p
      have j5 := (HBK.out _ c5).2
      have HBP : Hid (∀ x, Below (w5.alloc (.cells #[.int .i64 p.kind, .int .i64 p.id, .int .i64 p.up, .int .i64 p.at_, .string p.txt] 25)).drew.heap.size (w5.alloc (.cells #[.int .i64 p.kind, .int .i64 p.id, .int .i64 p.up, .int .i64 p.at_, .string p.txt] 25)).drew x → OBox x w5.heap.size p ∧ OBox x w3.heap.size o) := fun x hx => ⟨q5.below hx q5.lt, j5.below hx j5.lt⟩
      have c50 : Below (w5.alloc (.cells #[.int .i64 p.kind, .int .i64 p.id, .int .i64 p.up, .int .i64 p.at_, .string p.txt] 25)).drew.heap.size (w5.alloc (.cells #[.int .i64 p.kind, .int .i64 p.id, .int .i64 p.up, .int .i64 p.at_, .string p.txt] 25)).drew (w5.alloc (.cells #[.int .i64 p.kind, .int .i64 p.id, .int .i64 p.up, .int .i64 p.at_, .string p.txt] 25)).drew := Below.refl _ _
      obtain ⟨m0, m1, m2, m3, m4⟩ := q5.cells
      obtain ⟨k0, k1, k2, k3, k4⟩ := j5.cells
      clear hb5 hal5 h5 hr3 b3 ht3 c30 x0 x1 x2 x3 x4 y0 y1 y2 y3 y4 HKB HBK c5 q5 j5
      go_wp2_with fail
      go_region_held3 (fun x : World => x.cell? ⟨w5.heap.size, 0, none⟩ = some (.int .i64 p.kind) ∧ x.cell? ⟨w5.heap.size, 1, none⟩ = some (.int .i64 p.id) ∧ x.cell? ⟨w5.heap.size, 2, none⟩ = some (.int .i64 p.up) ∧ x.cell? ⟨w5.heap.size, 3, none⟩ = some (.int .i64 p.at_) ∧ x.cell? ⟨w5.heap.size, 4, none⟩ = some (.string p.txt) ∧ x.cell? ⟨w3.heap.size, 0, none⟩ = some (.int .i64 o.kind) ∧ x.cell? ⟨w3.heap.size, 1, none⟩ = some (.int .i64 o.id) ∧ x.cell? ⟨w3.heap.size, 2, none⟩ = some (.int .i64 o.up) ∧ x.cell? ⟨w3.heap.size, 3, none⟩ = some (.int .i64 o.at_) ∧ x.cell? ⟨w3.heap.size, 4, none⟩ = some (.string o.txt)) (first | (with_reducible exact ⟨m0, m1, m2, m3, m4, k0, k1, k2, k3, k4⟩) | (with_reducible exact ⟨n0, n1, n2, n3, n4, n5⟩) | (with_reducible exact ⟨s0, s1, s2, s3, s4, s5⟩) | (with_reducible exact ⟨u0, u1, u2, u3, u4, u5⟩)) (first
        | (go_at_call 29; (with_reducible refine (HO.out _ hr5 ht5).mono ?_); rintro e w6 ⟨xa, xc, rfl, own6, hxc, hb6⟩; have hx6 := (got_own own6).rows; have hr6 := (hr5.below hb6).mono hb6.size; have b6 := b5.trans (hb6.mono b5.size); have ht6 := ht.below b6 hz; have c6 := c50.trans (hb6.mono (Nat.le_refl _)); obtain ⟨n0, n1, n2, n3, n4⟩ := (HBP.out _ c6).1.cells; have n5 := (HBP.out _ c6).2.cells)
        | (go_at_call 29; (with_reducible refine (HQ.out _ _ _ hx6 ht6).mono ?_); rintro e w7 ⟨za, zc, rfl, own7, hzc, hb7⟩; have hy7 := (got_own own7).rows; have hr7 := (hr6.below hb7).mono hb7.size; have b7 := b6.trans (hb7.mono b6.size); have c7 := c6.trans (hb7.mono c6.size); obtain ⟨s0, s1, s2, s3, s4⟩ := (HBP.out _ c7).1.cells; have s5 := (HBP.out _ c7).2.cells)
        | (go_at_call 31; refine (lpRows_same _ _ _ _ _ _ _ (Nat.le_refl _) hy7 hr7 (by omega)).mono ?_; rintro e w8 ⟨rfl, hb8⟩; have b8 := b7.trans (hb8.mono b7.size); have c8 := c7.trans (hb8.mono c7.size); obtain ⟨u0, u1, u2, u3, u4⟩ := (HBP.out _ c8).1.cells; have u5 := (HBP.out _ c8).2.cells))
      all_goals
        go_wp2
        go_ret
        exact ⟨by first | rfl | simp, b8⟩
  · exact fnGoneBack_long _ _ _ _ hlens
end Go.Proofs.YtlhlkbbjmbpgpaaDoor
