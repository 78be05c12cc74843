/-
  The walk of the law FnOutIn out of the contracts. Conditions: the argument reads as bytes; the table 'creators' holds what its initialiser lays.
-/
import Derived.Test.YtlhlkbbjmbpgpaaDoorGI
import Derived.Test.YtlhlkbbjmbpgpaaDoorJDrawK
import Derived.Test.YtlhlkbbjmbpgpaaDoorJKeyM
import Derived.Test.YtlhlkbbjmbpgpaaDoorJKeyM2
import Derived.Test.YtlhlkbbjmbpgpaaDoorJLInOut
import Derived.Deep.RegionHeld3
namespace Go.Proofs.YtlhlkbbjmbpgpaaDoor
open Go.ChangeShapes Go.WideShapes Go.ChangeAt Go.RowKit Go.Joins

theorem outIn_facts {rs : List RowD} {id : Int} (h : koutB rs id = true) : ∃ n, (kidsT rs (upI rs id)).length = n + 1 ∧ ((kidsT rs (upI rs id)).getD n 0 = id → kinB (doT rs (koutO rs id)) id = true ∧ doT (doT rs (koutO rs id)) (kinO (doT rs (koutO rs id)) id) = rs) := by
  obtain ⟨ht, hm, hid, hu, eI, _, _⟩ := kout_parts h
  have u1 := (up_facts ht hm hid).1
  have hk : kidsT rs (upI rs id) = kidsL rs (upAt rs (atN rs id)) := by rw [eI]; simp [kidsT, ht]
  have hmem : id ∈ kidsL rs (upAt rs (atN rs id)) := (kids_up ht u1).2 ⟨hid, rfl⟩
  have hpos : 0 < (kidsL rs (upAt rs (atN rs id))).length := List.length_pos_of_mem hmem
  rw [hk]
  refine ⟨(kidsL rs (upAt rs (atN rs id))).length - 1, by omega, fun g => ?_⟩
  exact out_in h g
theorem fnOutIn_long (a0 : Option Addr) (len0 cap0 : Nat) (w : World) (h : ¬ (len0 : Int) ≤ 1048576) :
    Calls Tryd.prog 19 #[.slice a0 len0 cap0] w fun e w' => e = .returned (.bool true) ∧ Below w.heap.size w w' := by
  go_enter Tryd.func19, Tryd.ntmps19
  go_wp2
  go_ret
  exact ⟨rfl, Below.refl _ _⟩
set_option maxRecDepth 100000 in
set_option maxHeartbeats 4000000 in
theorem fnOutIn_walk (w : World) (ht : Tab w) (a0 : Option Addr) (len0 cap0 : Nat) (b0 : Bytes w a0 len0 cap0) :
    Calls Tryd.prog 19 #[.slice a0 len0 cap0] w fun e w' => e = .returned (.bool true) ∧ Below w.heap.size w w' := by
  have hz := ht.pos
  by_cases hlens : (len0 : Int) ≤ 1048576
  · go_enter Tryd.func19, Tryd.ntmps19
    go_wp2_with fail
    refine (drawKeyOut_any _ _ _ _ b0).mono ?_
    rintro e w1 ⟨a, cap, rs, id, rfl, id0, id1, hl, hb1⟩
    have hlen := hl.len
    have hcap := hl.cap
    have hfit := Lib.hid hl.fit
    have hI : Hid (I64 id) := ⟨by omega, by omega⟩
    have hr1 := hl.rows
    clear hl b0
    have HS : Hid (∀ x, RowsAt x.heap.size x a rs → Calls Tryd.prog 45 #[.slice a rs.length cap, .int .i64 id] x (RetBelow (keyV (koutO rs id) (koutB rs id)) x)) := fun x h => specKeyOut_any _ a cap rs id x (Nat.le_refl _) h hfit.out hI.out
    have HM : Hid (∀ x, RowsAt x.heap.size x a rs → Tab x → Calls Tryd.prog 46 #[.slice a rs.length cap, .int .i64 id] x (RetBelow (keyV (koutO rs id) (koutB rs id)) x)) := fun x h1 h2 => implKeyOut_any _ a cap rs id x (Nat.le_refl _) h1 hfit.out h2
    have HD : Hid ((koutB rs id) = true → treeB (doT rs (koutO rs id)) = true ∧ OpFit (koutO rs id) ∧ ∃ n, (kidsT rs (upI rs id)).length = n + 1 ∧ ((kidsT rs (upI rs id)).getD n 0 = id → kinB (doT rs (koutO rs id)) id = true ∧ doT (doT rs (koutO rs id)) (kinO (doT rs (koutO rs id)) id) = rs)) := fun h => ⟨kout_tree h, kout_fit h, outIn_facts h⟩
    generalize koutO rs id = o at *
    generalize koutB rs id = b at *
    simp only [keyV] at HS HM
    go_wp2_with fail
    refine (HS.out _ hr1).mono ?_
    rintro e w2 ⟨rfl, hb2⟩
    have hal2 : Below w2.heap.size w2 (w2.alloc (.cells #[.int .i64 o.kind, .int .i64 o.id, .int .i64 o.up, .int .i64 o.at_, .string o.txt] 25)) := (Below.refl _ _).alloc (Nat.le_refl _) _
    have c2 := hb2.trans (hal2.mono hb2.size)
    have hr2 := (hr1.below c2).mono c2.size
    have b2 := hb1.trans (c2.mono hb1.size)
    have ht2 := ht.below b2 hz
    have k2 := OBox.new w2 o
    clear hb2 hal2 c2 hr1 hb1
    go_wp2_with fail
    refine (HM.out _ hr2 ht2).mono ?_
    rintro e w3 ⟨rfl, hb3⟩
    have hal3 : Below w3.heap.size w3 (w3.alloc (.cells #[.int .i64 o.kind, .int .i64 o.id, .int .i64 o.up, .int .i64 o.at_, .string o.txt] 25)) := (Below.refl _ _).alloc (Nat.le_refl _) _
    have c3 := hb3.trans (hal3.mono hb3.size)
    have hr3 := (hr2.below c3).mono c3.size
    have b3 := b2.trans (c3.mono b2.size)
    have ht3 := ht.below b3 hz
    have k3 := k2.below c3 k2.lt
    have j3 := OBox.new w3 o
    have HBK : Hid (∀ x, Below (w3.alloc (.cells #[.int .i64 o.kind, .int .i64 o.id, .int .i64 o.up, .int .i64 o.at_, .string o.txt] 25)).heap.size (w3.alloc (.cells #[.int .i64 o.kind, .int .i64 o.id, .int .i64 o.up, .int .i64 o.at_, .string o.txt] 25)) x → OBox x w2.heap.size o ∧ OBox x w3.heap.size o) := fun x hx => ⟨k3.below hx k3.lt, j3.below hx j3.lt⟩
    have c30 : Below (w3.alloc (.cells #[.int .i64 o.kind, .int .i64 o.id, .int .i64 o.up, .int .i64 o.at_, .string o.txt] 25)).heap.size (w3.alloc (.cells #[.int .i64 o.kind, .int .i64 o.id, .int .i64 o.up, .int .i64 o.at_, .string o.txt] 25)) (w3.alloc (.cells #[.int .i64 o.kind, .int .i64 o.id, .int .i64 o.up, .int .i64 o.at_, .string o.txt] 25)) := Below.refl _ _
    obtain ⟨x0, x1, x2, x3, x4⟩ := k3.cells
    obtain ⟨y0, y1, y2, y3, y4⟩ := j3.cells
    clear hb3 hal3 c3 hr2 b2 ht2 k2 k3 j3
    cases b
    · go_wp2
      go_ret
      exact ⟨by first | rfl | simp, b3⟩
    · obtain ⟨hT2, hof, n, hn, hE⟩ := HD.out rfl
      have HN := Lib.hid hn
      have HE := Lib.hid hE
      have HT2 := Lib.hid hT2
      have HOF := Lib.hid hof
      clear HD hT2 hof hn hE HS HM
      have hrl : (doT rs o).length ≤ 1048576 := by have := doT_len rs o; omega
      have HU := Lib.hid (implTreeUp_any _ a cap rs id _ (Nat.le_refl _) hr3 hfit.out ht3)
      have HKT : Hid (∀ x, RowsAt x.heap.size x a rs → Tab x → Calls Tryd.prog 26 #[.slice a rs.length cap, .int .i64 (upI rs id)] x (RetInts (kidsT rs (upI rs id)) x)) := fun x h1 h2 => implTreeKids_any _ a cap rs _ x (Nat.le_refl _) h1 hfit.out h2
      have HKL : Hid ((kidsT rs (upI rs id)).length ≤ 1048576) := by
        show (kidsT rs (upI rs id)).length ≤ 1048576
        unfold kidsT
        split
        · exact kidsL_len (by omega)
        · simp
      generalize kidsT rs (upI rs id) = ks at *
      generalize upI rs id = up at *
      generalize hasB rs id = hs at *
      go_wp2_with fail
      refine HU.out.mono ?_
      rintro e w5 ⟨rfl, hb5⟩
      have hr5 := (hr3.below hb5).mono hb5.size
      have b5 := b3.trans (hb5.mono b3.size)
      have c5 := c30.trans (hb5.mono (Nat.le_refl _))
      have ht5 := ht.below b5 hz
      clear hb5 hr3 b3 ht3 c30 x0 x1 x2 x3 x4 y0 y1 y2 y3 y4 HU
      go_wp2_with fail
      refine (HKT.out _ hr5 ht5).mono ?_
      rintro e w6 ⟨kv, rfl, own, hb6⟩
      obtain ⟨ka, kc, rfl, hkc⟩ := own_slice own
      have hnl : n < ks.length := by have := HN.out; omega
      obtain ⟨g, rfl, hg, hc⟩ := (ints_of_own own).low.at_ hnl
      have hr6 := (hr5.below hb6).mono hb6.size
      have b6 := b5.trans (hb6.mono b5.size)
      have c6 := c5.trans (hb6.mono c5.size)
      have ht6 := ht.below b6 hz
      have hkl := HKL.out
      rw [HN.out] at hkc hkl ⊢
      clear own hb6 hr5 b5 c5 ht5 HKT hnl HKL
      obtain ⟨k6, j6⟩ := HBK.out w6 c6
      obtain ⟨y0, y1, y2, y3, y4⟩ := j6.cells
      clear k6 j6
      by_cases hzz : ks.getD n 0 = id
      · obtain ⟨hK2, hE⟩ := HE.out hzz
        rw [hzz] at hc
        have hfx := tree_fit HT2.out hrl
        have hpf := kin_fit hK2
        have HO : Hid (∀ x, RowsAt x.heap.size x a rs → Tab x → Calls Tryd.prog 29 #[.slice a rs.length cap, .agg #[.int .i64 o.kind, .int .i64 o.id, .int .i64 o.up, .int .i64 o.at_, .string o.txt]] x (RetOwn (doT rs o) x)) := fun x h1 h2 => implOpDo_any _ a cap rs o x (Nat.le_refl _) h1 hfit.out HOF.out h2
        have HK : Hid (∀ x xa xc, RowsAt x.heap.size x xa (doT rs o) → Tab x → Calls Tryd.prog 43 #[.slice xa (doT rs o).length xc, .int .i64 id] x (RetBelow (keyV (kinO (doT rs o) id) true) x)) := by
          intro x xa xc h1 h2
          have h3 := implKeyIn_any _ xa xc (doT rs o) id x (Nat.le_refl _) h1 hfx h2
          rwa [hK2] at h3
        have HQ : Hid (∀ x xa xc, RowsAt x.heap.size x xa (doT rs o) → Tab x → Calls Tryd.prog 29 #[.slice xa (doT rs o).length xc, .agg #[.int .i64 (kinO (doT rs o) id).kind, .int .i64 (kinO (doT rs o) id).id, .int .i64 (kinO (doT rs o) id).up, .int .i64 (kinO (doT rs o) id).at_, .string (kinO (doT rs o) id).txt]] x (RetOwn rs x)) := by
          intro x xa xc h1 h2
          have h3 := implOpDo_any _ xa xc (doT rs o) (kinO (doT rs o) id) x (Nat.le_refl _) h1 hfx hpf h2
          rwa [hE] at h3
        clear hK2 hE hfx hpf HBK HE HT2 HOF hzz HN
        generalize kinO (doT rs o) id = p at *
        generalize doT rs o = res at *
        simp only [keyV] at HK
        go_wp2_with fail
        refine (HO.out _ hr6 ht6).mono ?_
        rintro e w7 ⟨xa, xc, rfl, own7, hxc, hb7⟩
        have hx7 := (got_own own7).rows
        have hr7 := (hr6.below hb7).mono hb7.size
        have b7 := b6.trans (hb7.mono b6.size)
        have ht7 := ht.below b7 hz
        clear own7 hb7 hr6 b6 ht6 y0 y1 y2 y3 y4 c6 HO hc
        go_wp2_with fail
        refine (HK.out _ _ _ hx7 ht7).mono ?_
        rintro e w8 ⟨rfl, hb8⟩
        have hal8 : Below w8.heap.size w8 (w8.alloc (.cells #[.int .i64 p.kind, .int .i64 p.id, .int .i64 p.up, .int .i64 p.at_, .string p.txt] 25)) := (Below.refl _ _).alloc (Nat.le_refl _) _
        have c8 := hb8.trans (hal8.mono hb8.size)
        have hx8 := (hx7.below c8).mono c8.size
        have hr8 := (hr7.below c8).mono c8.size
        have b8 := b7.trans (c8.mono b7.size)
        have ht8 := ht.below b8 hz
        clear hb8 hal8 c8 hx7 hr7 b7 ht7 HK
        go_wp2_with fail
        refine (HQ.out _ _ _ hx8 ht8).mono ?_
        rintro e w9 ⟨za, zc, rfl, own9, hzc, hb9⟩
        have hy9 := (got_own own9).rows
        have hr9 := (hr8.below hb9).mono hb9.size
        have b9 := b8.trans (hb9.mono b8.size)
        clear own9 hb9 hx8 hr8 b8
        go_wp2_with fail
        refine (lpRows_same _ _ _ _ _ _ _ (Nat.le_refl _) hy9 hr9 (by omega)).mono ?_
        rintro e w10 ⟨rfl, hb10⟩
        have b10 := b9.trans (hb10.mono b9.size)
        go_wp2
        go_ret
        exact ⟨by first | rfl | simp, b10⟩
      · have hzz' : (ks.getD n 0 == id) = false := beq_eq_false_iff_ne.2 hzz
        generalize ks.getD n 0 = q at *
        go_wp2
        go_ret
        exact ⟨by first | rfl | simp, b6⟩
  · exact fnOutIn_long _ _ _ _ hlens
end Go.Proofs.YtlhlkbbjmbpgpaaDoor
