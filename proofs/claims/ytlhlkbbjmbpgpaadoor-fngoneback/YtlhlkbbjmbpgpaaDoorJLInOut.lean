/-
  The walk of the law FnInOut out of the contracts. Conditions: the argument reads as bytes; the table 'creators' holds what its initialiser lays.
-/
import Derived.Test.YtlhlkbbjmbpgpaaDoorGI
import Derived.Test.YtlhlkbbjmbpgpaaDoorJDrawK
import Derived.Test.YtlhlkbbjmbpgpaaDoorJKeyM
import Derived.Deep.RegionHeld3
namespace Go.Proofs.YtlhlkbbjmbpgpaaDoor
open Go.ChangeShapes Go.WideShapes Go.ChangeAt Go.RowKit Go.Joins

theorem move_fit {id up at' : Int} (h1 : madeB id = true) (h2 : whoB up = true) (h3 : at' = 0 ∨ madeB at' = true) : OpFit (moveO id up at') := by
  have m : ∀ c, madeB c = true → 0 ≤ c ∧ c ≤ 36 := fun c h => by have := (madeB_iff _).1 h; omega
  have g1 := m _ h1
  have g2 : 0 ≤ up ∧ up ≤ 36 := by
    unfold whoB at h2
    simp only [Bool.or_eq_true] at h2
    rcases h2 with h2 | h2
    · have := (rootB_iff _).1 h2; omega
    · exact m _ h2
  have g3 : 0 ≤ at' ∧ at' ≤ 36 := by
    rcases h3 with h3 | h3
    · omega
    · exact m _ h3
  refine ⟨⟨?_, ?_⟩, ⟨?_, ?_⟩, ⟨?_, ?_⟩, ?_⟩
  · show _ ≤ id; omega
  · show id ≤ _; omega
  · show _ ≤ up; omega
  · show up ≤ _; omega
  · show _ ≤ at'; omega
  · show at' ≤ _; omega
  · show (0 : Nat) ≤ maxLen; omega
theorem kin_fit {rs : List RowD} {id : Int} (h : kinB rs id = true) : OpFit (kinO rs id) := by
  obtain ⟨ht, hm, hid, ha, e, _⟩ := kin_parts h
  obtain ⟨_, _, _, f4, f5⟩ := ahead_facts ht hm hid ha
  rw [e]
  refine move_fit hm (there_who ht f5) ?_
  rcases lastK_cases rs (ahAt rs (atN rs id)) with ⟨_, g⟩ | g
  · exact .inl g
  · exact .inr (kid_made ht f5 g)
theorem kout_fit {rs : List RowD} {id : Int} (h : koutB rs id = true) : OpFit (koutO rs id) := by
  obtain ⟨ht, hm, hid, hu, _, _, e⟩ := kout_parts h
  have h1 := (up_facts ht hm hid).1
  rw [e]
  exact move_fit hm (up_facts ht hu h1).2.2 (.inr hu)
theorem kin_tree {rs : List RowD} {id : Int} (h : kinB rs id = true) : treeB (doT rs (kinO rs id)) = true := by
  rw [doT_is (kin_parts h).1 (kin_ok h)]; exact do_tree (kin_parts h).1 (kin_ok h)
theorem fnInOut_long (a0 : Option Addr) (len0 cap0 : Nat) (w : World) (h : ¬ (len0 : Int) ≤ 1048576) :
    Calls Tryd.prog 17 #[.slice a0 len0 cap0] w fun e w' => e = .returned (.bool true) ∧ Below w.heap.size w w' := by
  go_enter Tryd.func17, Tryd.ntmps17
  go_wp2
  go_ret
  exact ⟨rfl, Below.refl _ _⟩
set_option maxRecDepth 100000 in
set_option maxHeartbeats 4000000 in
theorem fnInOut_walk (w : World) (ht : Tab w) (a0 : Option Addr) (len0 cap0 : Nat) (b0 : Bytes w a0 len0 cap0) :
    Calls Tryd.prog 17 #[.slice a0 len0 cap0] w fun e w' => e = .returned (.bool true) ∧ Below w.heap.size w w' := by
  have hz := ht.pos
  by_cases hlens : (len0 : Int) ≤ 1048576
  · go_enter Tryd.func17, Tryd.ntmps17
    go_wp2_with fail
    refine (drawKeyIn_any _ _ _ _ b0).mono ?_
    rintro e w1 ⟨a, cap, rs, id, rfl, id0, id1, hl, hb1⟩
    have hlen := hl.len
    have hcap := hl.cap
    have hfit := Lib.hid hl.fit
    have hI : Hid (I64 id) := ⟨by omega, by omega⟩
    have hr1 := hl.rows
    clear hl b0
    have HS : Hid (∀ x, RowsAt x.heap.size x a rs → Calls Tryd.prog 42 #[.slice a rs.length cap, .int .i64 id] x (RetBelow (keyV (kinO rs id) (kinB rs id)) x)) := fun x h => specKeyIn_any _ a cap rs id x (Nat.le_refl _) h hfit.out
    have HM : Hid (∀ x, RowsAt x.heap.size x a rs → Tab x → Calls Tryd.prog 43 #[.slice a rs.length cap, .int .i64 id] x (RetBelow (keyV (kinO rs id) (kinB rs id)) x)) := fun x h1 h2 => implKeyIn_any _ a cap rs id x (Nat.le_refl _) h1 hfit.out h2
    have HD : Hid ((kinB rs id) = true → treeB (doT rs (kinO rs id)) = true ∧ koutB (doT rs (kinO rs id)) id = true ∧ doT (doT rs (kinO rs id)) (koutO (doT rs (kinO rs id)) id) = rs ∧ OpFit (kinO rs id)) := fun h => ⟨kin_tree h, (in_out h).1, (in_out h).2, kin_fit h⟩
    generalize kinO rs id = o at *
    generalize kinB rs id = b at *
    simp only [keyV] at HS HM
    go_wp2_with fail
    refine (HS.out _ hr1).mono ?_
    rintro e w2 ⟨rfl, hb2⟩
    have hal2 : Below w2.heap.size w2 (w2.alloc (.cells #[.int .i64 o.kind, .int .i64 o.id, .int .i64 o.up, .int .i64 o.at_, .string o.txt] 25)) := (Below.refl _ _).alloc (Nat.le_refl _) _
    have c2 := hb2.trans (hal2.mono hb2.size)
    have hr2 := (hr1.below c2).mono c2.size
    have b2 := hb1.trans (c2.mono hb1.size)
    have ht2 := ht.below b2 hz
    have k2 := OBox.new w2 o
    clear hb2 hal2 c2 hr1 hb1
    go_wp2_with fail
    refine (HM.out _ hr2 ht2).mono ?_
    rintro e w3 ⟨rfl, hb3⟩
    have hal3 : Below w3.heap.size w3 (w3.alloc (.cells #[.int .i64 o.kind, .int .i64 o.id, .int .i64 o.up, .int .i64 o.at_, .string o.txt] 25)) := (Below.refl _ _).alloc (Nat.le_refl _) _
    have c3 := hb3.trans (hal3.mono hb3.size)
    have hr3 := (hr2.below c3).mono c3.size
    have b3 := b2.trans (c3.mono b2.size)
    have ht3 := ht.below b3 hz
    have k3 := k2.below c3 k2.lt
    have j3 := OBox.new w3 o
    have HBK : Hid (∀ x, Below (w3.alloc (.cells #[.int .i64 o.kind, .int .i64 o.id, .int .i64 o.up, .int .i64 o.at_, .string o.txt] 25)).heap.size (w3.alloc (.cells #[.int .i64 o.kind, .int .i64 o.id, .int .i64 o.up, .int .i64 o.at_, .string o.txt] 25)) x → OBox x w2.heap.size o ∧ OBox x w3.heap.size o) := fun x hx => ⟨k3.below hx k3.lt, j3.below hx j3.lt⟩
    have c30 : Below (w3.alloc (.cells #[.int .i64 o.kind, .int .i64 o.id, .int .i64 o.up, .int .i64 o.at_, .string o.txt] 25)).heap.size (w3.alloc (.cells #[.int .i64 o.kind, .int .i64 o.id, .int .i64 o.up, .int .i64 o.at_, .string o.txt] 25)) (w3.alloc (.cells #[.int .i64 o.kind, .int .i64 o.id, .int .i64 o.up, .int .i64 o.at_, .string o.txt] 25)) := Below.refl _ _
    obtain ⟨x0, x1, x2, x3, x4⟩ := k3.cells
    obtain ⟨y0, y1, y2, y3, y4⟩ := j3.cells
    clear hb3 hal3 c3 hr2 b2 ht2 k2 k3 j3
    cases b
    · go_wp2
      go_ret
      exact ⟨by first | rfl | simp, b3⟩
    · obtain ⟨hT2, hK2, hE, hof⟩ := HD.out rfl
      have hrl : (doT rs o).length ≤ 1048576 := by have := doT_len rs o; omega
      have hfx := tree_fit hT2 hrl
      have hpf := kout_fit hK2
      have HO : Hid (∀ x, RowsAt x.heap.size x a rs → Tab x → Calls Tryd.prog 29 #[.slice a rs.length cap, .agg #[.int .i64 o.kind, .int .i64 o.id, .int .i64 o.up, .int .i64 o.at_, .string o.txt]] x (RetOwn (doT rs o) x)) := fun x h1 h2 => implOpDo_any _ a cap rs o x (Nat.le_refl _) h1 hfit.out hof h2
      have HK : Hid (∀ x xa xc, RowsAt x.heap.size x xa (doT rs o) → Tab x → Calls Tryd.prog 46 #[.slice xa (doT rs o).length xc, .int .i64 id] x (RetBelow (keyV (koutO (doT rs o) id) true) x)) := by
        intro x xa xc h1 h2
        have h3 := implKeyOut_any _ xa xc (doT rs o) id x (Nat.le_refl _) h1 hfx h2
        rwa [hK2] at h3
      have HQ : Hid (∀ x xa xc, RowsAt x.heap.size x xa (doT rs o) → Tab x → Calls Tryd.prog 29 #[.slice xa (doT rs o).length xc, .agg #[.int .i64 (koutO (doT rs o) id).kind, .int .i64 (koutO (doT rs o) id).id, .int .i64 (koutO (doT rs o) id).up, .int .i64 (koutO (doT rs o) id).at_, .string (koutO (doT rs o) id).txt]] x (RetOwn rs x)) := by
        intro x xa xc h1 h2
        have h3 := implOpDo_any _ xa xc (doT rs o) (koutO (doT rs o) id) x (Nat.le_refl _) h1 hfx hpf h2
        rwa [hE] at h3
      clear HD hT2 hK2 hE hof hfx hpf HS HM HBK
      generalize koutO (doT rs o) id = p at *
      generalize doT rs o = res at *
      simp only [keyV] at HK
      go_wp2_with fail
      refine (HO.out _ hr3 ht3).mono ?_
      rintro e w5 ⟨xa, xc, rfl, own5, hxc, hb5⟩
      have hx5 := (got_own own5).rows
      have hr5 := (hr3.below hb5).mono hb5.size
      have b5 := b3.trans (hb5.mono b3.size)
      have ht5 := ht.below b5 hz
      clear own5 hb5 hr3 b3 ht3 x0 x1 x2 x3 x4 y0 y1 y2 y3 y4 c30 HO
      go_wp2_with fail
      refine (HK.out _ _ _ hx5 ht5).mono ?_
      rintro e w6 ⟨rfl, hb6⟩
      have hal6 : Below w6.heap.size w6 (w6.alloc (.cells #[.int .i64 p.kind, .int .i64 p.id, .int .i64 p.up, .int .i64 p.at_, .string p.txt] 25)) := (Below.refl _ _).alloc (Nat.le_refl _) _
      have c6 := hb6.trans (hal6.mono hb6.size)
      have hx6 := (hx5.below c6).mono c6.size
      have hr6 := (hr5.below c6).mono c6.size
      have b6 := b5.trans (c6.mono b5.size)
      have ht6 := ht.below b6 hz
      clear hb6 hal6 c6 hx5 hr5 b5 ht5 HK
      go_wp2_with fail
      refine (HQ.out _ _ _ hx6 ht6).mono ?_
      rintro e w7 ⟨za, zc, rfl, own7, hzc, hb7⟩
      have hy7 := (got_own own7).rows
      have hr7 := (hr6.below hb7).mono hb7.size
      have b7 := b6.trans (hb7.mono b6.size)
      clear own7 hb7 hx6 hr6 b6
      go_wp2_with fail
      refine (lpRows_same _ _ _ _ _ _ _ (Nat.le_refl _) hy7 hr7 (by omega)).mono ?_
      rintro e w8 ⟨rfl, hb8⟩
      have b8 := b7.trans (hb8.mono b7.size)
      go_wp2
      go_ret
      exact ⟨by first | rfl | simp, b8⟩
  · exact fnInOut_long _ _ _ _ hlens
end Go.Proofs.YtlhlkbbjmbpgpaaDoor
