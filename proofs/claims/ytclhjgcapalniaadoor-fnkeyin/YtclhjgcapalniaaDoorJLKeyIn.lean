/-
  The walk of the law FnKeyIn out of the contracts. Conditions: the argument reads as bytes; the table 'creators' holds what its initialiser lays.
-/
import Derived.Test.YtclhjgcapalniaaDoorJLDoOk
import Derived.Test.YtclhjgcapalniaaDoorJDrawK
import Derived.Test.YtclhjgcapalniaaDoorJKeyM
import Derived.Test.YtclhjgcapalniaaDoorJKeyM2
import Derived.Test.YtclhjgcapalniaaDoorJKeyM4
import Derived.Test.YtclhjgcapalniaaDoorJLInOut
import Derived.Test.YtclhjgcapalniaaDoorGM
import Derived.Test.YtclhjgcapalniaaDoorJLpInts
import Derived.Test.YtclhjgcapalniaaDoorJLooseA
import Derived.Test.YtclhjgcapalniaaDoorGS
import Derived.Deep.RegionHeld3
namespace Go.Proofs.YtclhjgcapalniaaDoor
open Go.ChangeShapes Go.WideShapes Go.ChangeAt Go.RowKit Go.Joins

theorem keyIn_yes {rs : List RowD} {id : Int} (h : kinB rs id = true) : OpFit (kinO rs id) ∧ opokB (kinO rs id) = true ∧ treeB (doT rs (kinO rs id)) = true ∧ upI (doT rs (kinO rs id)) id = ahI rs id ∧ kidsT (doT rs (kinO rs id)) (ahI rs id) = kidsT rs (ahI rs id) ++ [id] ∧ atN (doT rs (kinO rs id)) id < (doT rs (kinO rs id)).length ∧ atN rs id < rs.length ∧ (rat (doT rs (kinO rs id)) (atN (doT rs (kinO rs id)) id)).dep = (rat rs (atN rs id)).dep + 1 := by
  obtain ⟨ht, hm, hid, ha, e, eI⟩ := kin_parts h
  obtain ⟨k1, k2, k3, k4⟩ := in_kids h
  have hx := kin_tree h
  refine ⟨kin_fit h, kin_ok h, hx, by rw [k3, eI], ?_, (hasB_iff.1 k2).2, there_iff.1 hid, k4⟩
  unfold kidsT
  rw [if_pos hx, if_pos ht, eI]; exact k1
theorem keyIn_no {rs : List RowD} {id : Int} (h : kinB rs id = false) : ahB rs id = false ∨ ahI rs id = 0 := by
  unfold kinB at h
  rw [Bool.and_eq_false_iff] at h
  rcases h with h | h
  · exact .inl h
  · right; simpa using h
theorem kids_le {rs : List RowD} {id : Int} : (kidsT rs id).length ≤ rs.length := by
  unfold kidsT
  split
  · unfold kidsL
    split
    · rename_i h
      have h2 : enR rs (atN rs id) ≤ rs.length := (en_spec (D := rdep rs) h).2.1
      have := kidsOf_len rs (atN rs id) (enR rs (atN rs id) - (atN rs id + 1)) (atN rs id + 1)
      unfold kidsAt; omega
    · exact Nat.zero_le _
  · exact Nat.zero_le _
theorem fnKeyIn_long (a0 : Option Addr) (len0 cap0 : Nat) (w : World) (h : ¬ (len0 : Int) ≤ 1048576) :
    Calls Tryd.prog 3 #[.slice a0 len0 cap0] w fun e w' => e = .returned (.bool true) ∧ Below w.heap.size w w' := by
  go_enter Tryd.func3, Tryd.ntmps3
  go_wp2
  go_ret
  exact ⟨rfl, Below.refl _ _⟩
set_option maxRecDepth 100000 in
set_option maxHeartbeats 4000000 in
theorem fnKeyIn_walk (w : World) (ht : Tab w) (a0 : Option Addr) (len0 cap0 : Nat) (b0 : Bytes w a0 len0 cap0) :
    Calls Tryd.prog 3 #[.slice a0 len0 cap0] w fun e w' => e = .returned (.bool true) ∧ Below w.heap.size w w' := by
  have hz := ht.pos
  by_cases hlens : (len0 : Int) ≤ 1048576
  · go_enter Tryd.func3, Tryd.ntmps3
    go_wp2_with fail
    refine (drawKeyIn_any _ _ _ _ b0).mono ?_
    rintro e w1 ⟨a, cap, rs, id, rfl, id0, id1, hl, hb1⟩
    have hlen := hl.len
    have hcap := hl.cap
    have hfit := Lib.hid hl.fit
    have hI : Hid (I64 id) := ⟨by omega, by omega⟩
    have hr1 := hl.rows
    clear hl b0
    have HS : Hid (∀ x, RowsAt x.heap.size x a rs → Calls Tryd.prog 9 #[.slice a rs.length cap, .int .i64 id] x (RetBelow (keyV (kinO rs id) (kinB rs id)) x)) := fun x h => specKeyIn_any _ a cap rs id x (Nat.le_refl _) h hfit.out
    have HM : Hid (∀ x, RowsAt x.heap.size x a rs → Tab x → Calls Tryd.prog 10 #[.slice a rs.length cap, .int .i64 id] x (RetBelow (keyV (kinO rs id) (kinB rs id)) x)) := fun x h1 h2 => implKeyIn_any _ a cap rs id x (Nat.le_refl _) h1 hfit.out h2
    have HD : Hid ((kinB rs id) = true → OpFit (kinO rs id) ∧ opokB (kinO rs id) = true ∧ treeB (doT rs (kinO rs id)) = true ∧ upI (doT rs (kinO rs id)) id = ahI rs id ∧ kidsT (doT rs (kinO rs id)) (ahI rs id) = kidsT rs (ahI rs id) ++ [id] ∧ atN (doT rs (kinO rs id)) id < (doT rs (kinO rs id)).length ∧ atN rs id < rs.length ∧ (rat (doT rs (kinO rs id)) (atN (doT rs (kinO rs id)) id)).dep = (rat rs (atN rs id)).dep + 1) := fun h => keyIn_yes h
    have HN : Hid ((kinB rs id) = false → ahB rs id = false ∨ ahI rs id = 0) := fun h => keyIn_no h
    generalize kinO rs id = o at *
    generalize kinB rs id = b at *
    simp only [keyV] at HS HM
    go_wp2_with fail
    refine (HS.out _ hr1).mono ?_
    rintro e w2 ⟨rfl, hb2⟩
    have hal2 : Below w2.heap.size w2 (w2.alloc (.cells #[.int .i64 o.kind, .int .i64 o.id, .int .i64 o.up, .int .i64 o.at_, .string o.txt] 27)) := (Below.refl _ _).alloc (Nat.le_refl _) _
    have c2 := hb2.trans (hal2.mono hb2.size)
    have hr2 := (hr1.below c2).mono c2.size
    have b2 := hb1.trans (c2.mono hb1.size)
    have ht2 := ht.below b2 hz
    have k2 := OBox.new w2 o
    clear hb2 hal2 c2 hr1 hb1
    go_wp2_with fail
    refine (HM.out _ hr2 ht2).mono ?_
    rintro e w3 ⟨rfl, hb3⟩
    have hal3 : Below w3.heap.size w3 (w3.alloc (.cells #[.int .i64 o.kind, .int .i64 o.id, .int .i64 o.up, .int .i64 o.at_, .string o.txt] 27)) := (Below.refl _ _).alloc (Nat.le_refl _) _
    have c3 := hb3.trans (hal3.mono hb3.size)
    have hr3 := (hr2.below c3).mono c3.size
    have b3 := b2.trans (c3.mono b2.size)
    have ht3 := ht.below b3 hz
    have k3 := k2.below c3 k2.lt
    have j3 := OBox.new w3 o
    have HBK : Hid (∀ x, Below (w3.alloc (.cells #[.int .i64 o.kind, .int .i64 o.id, .int .i64 o.up, .int .i64 o.at_, .string o.txt] 27)).heap.size (w3.alloc (.cells #[.int .i64 o.kind, .int .i64 o.id, .int .i64 o.up, .int .i64 o.at_, .string o.txt] 27)) x → OBox x w2.heap.size o ∧ OBox x w3.heap.size o) := fun x hx => ⟨k3.below hx k3.lt, j3.below hx j3.lt⟩
    have c30 : Below (w3.alloc (.cells #[.int .i64 o.kind, .int .i64 o.id, .int .i64 o.up, .int .i64 o.at_, .string o.txt] 27)).heap.size (w3.alloc (.cells #[.int .i64 o.kind, .int .i64 o.id, .int .i64 o.up, .int .i64 o.at_, .string o.txt] 27)) (w3.alloc (.cells #[.int .i64 o.kind, .int .i64 o.id, .int .i64 o.up, .int .i64 o.at_, .string o.txt] 27)) := Below.refl _ _
    obtain ⟨x0, x1, x2, x3, x4⟩ := k3.cells
    obtain ⟨y0, y1, y2, y3, y4⟩ := j3.cells
    clear hb3 hal3 c3 hr2 b2 ht2 k2 k3 j3
    go_wp2_with fail
    refine (specTreeOk_any _ _ _ _ _ (Nat.le_refl _) hr3 hfit.out).mono ?_
    rintro e w5 ⟨rfl, hb5⟩
    have hr5 := (hr3.below hb5).mono hb5.size
    have b5 := b3.trans (hb5.mono b3.size)
    have c5 := c30.trans (hb5.mono (Nat.le_refl _))
    have ht5 := ht.below b5 hz
    clear hb5 hr3 b3 ht3 c30 x0 x1 x2 x3 x4 y0 y1 y2 y3 y4
    obtain ⟨k5, j5⟩ := HBK.out w5 c5
    obtain ⟨x0, x1, x2, x3, x4⟩ := k5.cells
    obtain ⟨y0, y1, y2, y3, y4⟩ := j5.cells
    clear k5 j5
    cases hT : treeB rs
    · go_wp2
      go_ret
      exact ⟨by first | rfl | simp, b5⟩
    · have HU := Lib.hid (implTreeAhead_any _ a cap rs id _ (Nat.le_refl _) hr5 hfit.out ht5)
      have HTP : Hid (atN rs id < rs.length → 0 ≤ (rat rs (atN rs id)).dep ∧ (rat rs (atN rs id)).dep ≤ 18) := fun h => rok_dep ((treeP_of hT).rok _ h)
      have HKL : Hid ((kidsT rs (ahI rs id)).length ≤ rs.length) := kids_le
      have HK2 : Hid (∀ x, RowsAt x.heap.size x a rs → Tab x → Calls Tryd.prog 15 #[.slice a rs.length cap, .int .i64 (ahI rs id)] x (RetInts (kidsT rs (ahI rs id)) x)) := fun x h1 h2 => implTreeKids_any _ a cap rs _ x (Nat.le_refl _) h1 hfit.out h2
      generalize ahI rs id = ah at *
      generalize ahB rs id = ab at *
      go_wp2_with fail
      refine HU.out.mono ?_
      rintro e w6 ⟨rfl, hb6⟩
      have hr6 := (hr5.below hb6).mono hb6.size
      have b6 := b5.trans (hb6.mono b5.size)
      have c6 := c5.trans (hb6.mono c5.size)
      have ht6 := ht.below b6 hz
      clear hb6 hr5 b5 ht5 c5 x0 x1 x2 x3 x4 y0 y1 y2 y3 y4 HU
      obtain ⟨k6, j6⟩ := HBK.out w6 c6
      obtain ⟨y0, y1, y2, y3, y4⟩ := j6.cells
      clear k6 j6
      cases b
      · rcases HN.out rfl with h | h
        · subst h
          go_wp2
          all_goals
            go_ret
            exact ⟨by first | rfl | simp, b6⟩
        · subst h
          go_wp2
          all_goals
            go_ret
            exact ⟨by first | rfl | simp, b6⟩
      · obtain ⟨d1, d2, d3, d4, d5, d6, d7, d8⟩ := HD.out rfl
        have hrl : (doT rs o).length ≤ 1048576 := by have := doT_len rs o; omega
        have HFX := Lib.hid (tree_fit d3 hrl)
        obtain ⟨t1, t2⟩ := HTP.out d7
        have hkl := HKL.out
        have HO : Hid (∀ x, RowsAt x.heap.size x a rs → Tab x → Calls Tryd.prog 13 #[.slice a rs.length cap, .agg #[.int .i64 o.kind, .int .i64 o.id, .int .i64 o.up, .int .i64 o.at_, .string o.txt]] x (RetOwn (doT rs o) x)) := fun x h1 h2 => implOpDo_any _ a cap rs o x (Nat.le_refl _) h1 hfit.out d1 h2
        have HOK : Hid (∀ x, Tab x → Calls Tryd.prog 16 #[.agg #[.int .i64 o.kind, .int .i64 o.id, .int .i64 o.up, .int .i64 o.at_, .string o.txt]] x (RetBelow (.bool true) x)) := by
          intro x h1
          have h3 := implOpOk_any o x h1 d1.txt
          rwa [d2] at h3
        have HX1 : Hid (∀ x xa xc, RowsAt x.heap.size x xa (doT rs o) → Tab x → Calls Tryd.prog 14 #[.slice xa (doT rs o).length xc, .int .i64 id] x (RetBelow (.tuple #[.int .i64 ah, .bool (hasB (doT rs o) id)]) x)) := by
          intro x xa xc h1 h2
          have h3 := implTreeUp_any _ xa xc (doT rs o) id x (Nat.le_refl _) h1 HFX.out h2
          rwa [d4] at h3
        have HK1 : Hid (∀ x xa xc, RowsAt x.heap.size x xa (doT rs o) → Tab x → Calls Tryd.prog 15 #[.slice xa (doT rs o).length xc, .int .i64 ah] x (RetInts (kidsT rs ah ++ [id]) x)) := by
          intro x xa xc h1 h2
          have h3 := implTreeKids_any _ xa xc (doT rs o) ah x (Nat.le_refl _) h1 HFX.out h2
          rwa [d5] at h3
        have HA1 : Hid (∀ x xa xc, RowsAt x.heap.size x xa (doT rs o) → Calls Tryd.prog 18 #[.slice xa (doT rs o).length xc, .int .i64 id] x fun e w' => e = .returned (.int .i64 (atN (doT rs o) id : Int)) ∧ x = w') := by
          intro x xa xc h1
          have h3 := lpAt_any x.heap.size xa xc (doT rs o) id x h1 HFX.out
          rwa [atI_pos d6] at h3
        have HA2 : Hid (∀ x, RowsAt x.heap.size x a rs → Calls Tryd.prog 18 #[.slice a rs.length cap, .int .i64 id] x fun e w' => e = .returned (.int .i64 (atN rs id : Int)) ∧ x = w') := by
          intro x h1
          have h3 := lpAt_any x.heap.size a cap rs id x h1 hfit.out
          rwa [atI_pos d7] at h3
        clear HD HN HTP HFX HKL d1 d2 d3 d4 d5 HS HM
        generalize hasB (doT rs o) id = hs3 at *
        generalize doT rs o = res at *
        generalize atN res id = q1 at *
        generalize atN rs id = q2 at *
        generalize kidsT rs ah = ks at *
        go_wp2_with fail
        refine (HO.out _ hr6 ht6).mono ?_
        rintro e w7 ⟨xa, xc, rfl, own7, hxc, hb7⟩
        have hx7 := (got_own own7).rows
        have hr7 := (hr6.below hb7).mono hb7.size
        have b7 := b6.trans (hb7.mono b6.size)
        have c7 := c6.trans (hb7.mono c6.size)
        have ht7 := ht.below b7 hz
        clear own7 hb7 hr6 b6 ht6 c6 y0 y1 y2 y3 y4 HO
        go_wp2_with fail
        refine (HX1.out _ _ _ hx7 ht7).mono ?_
        rintro e w8 ⟨rfl, hb8⟩
        have hx8 := (hx7.below hb8).mono hb8.size
        have hr8 := (hr7.below hb8).mono hb8.size
        have b8 := b7.trans (hb8.mono b7.size)
        have c8 := c7.trans (hb8.mono c7.size)
        have ht8 := ht.below b8 hz
        clear hb8 hr7 b7 ht7 c7 hx7 HX1
        go_wp2_with fail
        refine (HK1.out _ _ _ hx8 ht8).mono ?_
        rintro e w9 ⟨vk, rfl, ownk, hb9⟩
        obtain ⟨ka, kc, rfl, _⟩ := own_slice ownk
        have hk9 := (ints_of_own ownk).low
        have hx9 := (hx8.below hb9).mono hb9.size
        have hr9 := (hr8.below hb9).mono hb9.size
        have b9 := b8.trans (hb9.mono b8.size)
        have c9 := c8.trans (hb9.mono c8.size)
        have ht9 := ht.below b9 hz
        clear hb9 hr8 b8 ht8 c8 hx8 HK1 ownk
        go_wp2_with fail
        refine (HK2.out _ hr9 ht9).mono ?_
        rintro e w10 ⟨vw, rfl, ownw, hb10⟩
        obtain ⟨wa, wc, rfl, _⟩ := own_slice ownw
        have hw10 := (ints_of_own ownw).low
        have hk10 := (hk9.below hb10).mono hb10.size
        have hx10 := (hx9.below hb10).mono hb10.size
        have hr10 := (hr9.below hb10).mono hb10.size
        have b10 := b9.trans (hb10.mono b9.size)
        have c10 := c9.trans (hb10.mono c9.size)
        obtain ⟨k10, j10⟩ := HBK.out w10 c10
        obtain ⟨y0, y1, y2, y3, y4⟩ := j10.cells
        have hlJ : w3.heap.size < w10.heap.size := j10.lt
        have HLD : Hid (∀ x : World, Below w10.heap.size w10 x → x.cell? ⟨w3.heap.size, 0, none⟩ = some (.int .i64 o.kind) ∧ x.cell? ⟨w3.heap.size, 1, none⟩ = some (.int .i64 o.id) ∧ x.cell? ⟨w3.heap.size, 2, none⟩ = some (.int .i64 o.up) ∧ x.cell? ⟨w3.heap.size, 3, none⟩ = some (.int .i64 o.at_) ∧ x.cell? ⟨w3.heap.size, 4, none⟩ = some (.string o.txt)) := fun x hx => ⟨(hx.cell (p := ⟨w3.heap.size, 0, none⟩) hlJ).trans y0, (hx.cell (p := ⟨w3.heap.size, 1, none⟩) hlJ).trans y1, (hx.cell (p := ⟨w3.heap.size, 2, none⟩) hlJ).trans y2, (hx.cell (p := ⟨w3.heap.size, 3, none⟩) hlJ).trans y3, (hx.cell (p := ⟨w3.heap.size, 4, none⟩) hlJ).trans y4⟩
        have HX : Hid (∀ x, Below w10.heap.size w10 x → RowsAt x.heap.size x xa res) := fun x h1 => (hx10.below h1).mono h1.size
        have HR : Hid (∀ x, Below w10.heap.size w10 x → RowsAt x.heap.size x a rs) := fun x h1 => (hr10.below h1).mono h1.size
        have HKID : Hid (∀ x, Below w10.heap.size w10 x → IntsLow x.heap.size x ka (ks ++ [id])) := fun x h1 => (hk10.below h1).mono h1.size
        have HWAS : Hid (∀ x, Below w10.heap.size w10 x → ks.length = 0 ∨ ∃ ad, wa = some ad ∧ ∀ j u, (ks.map (Value.int .i64))[j]? = some u → x.cell? (ad.add j) = some u) := fun x h1 => by
          rcases hw10.below h1 with q | ⟨g, rfl, _, hc⟩
          · exact .inl q
          · refine .inr ⟨_, rfl, fun j u hu => ?_⟩
            rw [List.getElem?_map] at hu
            obtain ⟨z, hz1, rfl⟩ := Option.map_eq_some_iff.1 hu
            have hj := (List.getElem?_eq_some_iff.1 hz1).1
            have := hc j hj
            rw [addr_add, Nat.zero_add, this, List.getD_eq_getElem?_getD, hz1]; rfl
        have HONE : Hid (∀ (x : World) (b : Nat), Bx x b 3 #[.int .i64 id] → ∀ j u, ([.int .i64 id] : List Value)[j]? = some u → x.cell? ((⟨b, 0, none⟩ : Addr).add j) = some u) := fun x b h1 j u hu => by
          match j, hu with
          | 0, hu => cases hu; exact h1.cell 0 rfl
        have HLO : Hid (ks.length * 1 = ks.length) := Nat.mul_one _
        obtain ⟨p1, f1, rfl, hpB1, v0, v1, v2⟩ := hx10.at_ d6
        obtain ⟨p2, f2, rfl, hpB2, u0, u1, u2⟩ := hr10.at_ d7
        have i1 : (q1 : Int) < (res.length : Int) := by omega
        have i2 : (q2 : Int) < (rs.length : Int) := by omega
        rw [d8] at v1
        have g8 : IntKind.i64.wrap ((rat rs q2).dep + 1) = (rat rs q2).dep + 1 := IntWalk.i64_in _ (by omega)
        obtain ⟨i0, hi, hz0, hz1, hz2⟩ := info_parts infoInt
        have hks : ks.length ≤ 1048575 := by omega
        clear hx10 hr10 hk10 hw10 k10 j10 c10 hx9 hr9 hk9 b9 ht9 c9 HK2 ownw hb10 v0 v2 u0 u2 HBK
        go_upto_region 15 with fail
        refine wp_region_loose (n := 36) (fun x => Below w10.heap.size w10 x) (XGt 14 3 1 ks.length) (dOf [(1, fun _ v _ => v = .bool true), (9, fun _ v x => ∃ b, v = .slice (some ⟨b, 0, none⟩) 0 0 ∧ w10.heap.size ≤ b ∧ Bx x b 3 #[]), (11, fun _ v x => ∃ a c, v = .slice (some a) ks.length c ∧ x.ownsRow w10.heap.size 3 1 (.slice (some a) ks.length c) ks.length (ks.map (Value.int .i64)) ∧ (ks.length = 0 → c = 0)), (13, fun _ v x => ∃ b, v = .slice (some ⟨b, 0, none⟩) 1 1 ∧ w10.heap.size ≤ b ∧ Bx x b 3 #[.int .i64 id]), (14, fun _ v x => ∃ a c, v = .slice (some a) (ks.length + 1) c ∧ x.ownsRow w10.heap.size 3 1 (.slice (some a) (ks.length + 1) c) (ks.length + 1) (ks.map (Value.int .i64) ++ [.int .i64 id])), (15, fun _ v _ => v = .bool true), (21, fun _ v _ => v = .int .i64 (q1 : Int)), (28, fun _ v _ => v = .int .i64 (q2 : Int))]) (by kernel_rfl) (by kernel_rfl) (dOf_stable ?hst) ((Below.refl w10.heap.size w10).drew) ?hgo
        case hst =>
          intro p hp i hi' xs v x x' hx hr
          simp only [List.mem_cons, List.not_mem_nil, or_false] at hp
          rcases hp with rfl | rfl | rfl | rfl | rfl | rfl | rfl | rfl
          · exact hr
          · obtain ⟨b, e, h1, h2⟩ := hr; exact ⟨b, e, h1, hx.2.same h2 (.inr (by simp))⟩
          · obtain ⟨a, c, e, h1, h2⟩ := hr; exact ⟨a, c, e, own_extG h1 (by rw [Nat.mul_one]; exact hx.2), h2⟩
          · obtain ⟨b, e, h1, h2⟩ := hr; exact ⟨b, e, h1, hx.2.same h2 (.inr (by simp))⟩
          · obtain ⟨a, c, e, h1⟩ := hr; exact ⟨a, c, e, own_below h1 (hx.1 hi')⟩
          · exact hr
          · exact hr
          · exact hr
        case hgo =>
          refine wpL_pure (v := ?_) (by rfl) (by rfl) ?hv ?hn
          case hv =>
            intro x hx
            obtain ⟨x0, x1, x2, x3, x4⟩ := HLD.out x hx
            go_simp
            all_goals (try with_reducible rfl)
          case hn =>
          try simp only [Act.put, List.setIfInBounds_toArray, List.set_cons_zero, List.set_cons_succ]
          refine wpL_fact (by rfl) (by rfl) ?h1 ?h2
          case h1 =>
            intro x hx _
            go_simp
            simp only [looseR]
            refine (HOK.out x (ht.below (b10.trans (hx.mono b10.size)) hz)).mono ?_
            rintro _ y ⟨rfl, bN⟩
            exact ⟨_, rfl, hx.trans (bN.mono hx.size), XGt.of bN, rfl⟩
          case h2 =>
          rintro v F1 H1 ⟨_, _, _, rfl⟩
          try simp only [Act.put, List.setIfInBounds_toArray, List.set_cons_zero, List.set_cons_succ]
          refine wpL_pure (v := ?_) (by rfl) (by rfl) ?hv ?hn
          case hv =>
            intro x hx
            go_simp
            all_goals (try with_reducible rfl)
          case hn =>
          try simp only [Act.put, List.setIfInBounds_toArray, List.set_cons_zero, List.set_cons_succ]
          refine wpL_pure (v := ?_) (by rfl) (by rfl) ?hv ?hn
          case hv =>
            intro x hx
            go_simp
            all_goals (try with_reducible rfl)
          case hn =>
          try simp only [Act.put, List.setIfInBounds_toArray, List.set_cons_zero, List.set_cons_succ]
          refine wpL_pure (v := ?_) (by rfl) (by rfl) ?hv ?hn
          case hv =>
            intro x hx
            go_simp
            all_goals (try with_reducible rfl)
          case hn =>
          try simp only [Act.put, List.setIfInBounds_toArray, List.set_cons_zero, List.set_cons_succ]
          refine wpL_pure (v := ?_) (by rfl) (by rfl) ?hv ?hn
          case hv =>
            intro x hx
            go_simp
            all_goals (try with_reducible rfl)
          case hn =>
          try simp only [Act.put, List.setIfInBounds_toArray, List.set_cons_zero, List.set_cons_succ]
          refine wpL_pure (v := ?_) (by rfl) (by rfl) ?hv ?hn
          case hv =>
            intro x hx
            go_simp
            all_goals (try with_reducible rfl)
          case hn =>
          try simp only [Act.put, List.setIfInBounds_toArray, List.set_cons_zero, List.set_cons_succ]
          refine wpL_pure (v := ?_) (by rfl) (by rfl) ?hv ?hn
          case hv =>
            intro x hx
            go_simp
            all_goals (try with_reducible rfl)
          case hn =>
          try simp only [Act.put, List.setIfInBounds_toArray, List.set_cons_zero, List.set_cons_succ]
          refine wpL_pure (v := ?_) (by rfl) (by rfl) ?hv ?hn
          case hv =>
            intro x hx
            go_simp
            all_goals (try with_reducible rfl)
          case hn =>
          try simp only [Act.put, List.setIfInBounds_toArray, List.set_cons_zero, List.set_cons_succ]
          refine wpL_fact (by rfl) (by rfl) ?h1 ?h2
          case h1 =>
            intro x hx _
            go_simp
            simp only [looseR]
            exact ⟨hx.alloc hx.size _, XGt.of ((Below.refl _ _).alloc (Nat.le_refl _) _), x.heap.size, rfl, hx.size, Bx.new x _ _⟩
          case h2 =>
          rintro v F9 H9 ⟨_, _, _, b9, rfl, hb9, _⟩
          try simp only [Act.put, List.setIfInBounds_toArray, List.set_cons_zero, List.set_cons_succ]
          refine wpL_pure (v := ?_) (by rfl) (by rfl) ?hv ?hn
          case hv =>
            intro x hx
            go_simp
            all_goals (try with_reducible rfl)
          case hn =>
          try simp only [Act.put, List.setIfInBounds_toArray, List.set_cons_zero, List.set_cons_succ]
          refine wpL_fact (by rfl) (by rfl) ?h1 ?h2
          case h1 =>
            intro x hx hf
            obtain ⟨b9', e9, _, X9⟩ := H9 x (hf.1 (by kernel_rfl))
            cases e9
            clear hf
            have hwx := HWAS.out x hx
            obtain ⟨v', w', r1, r2, r3, r4, a5, c5, r5, _⟩ := run_append_copy (P := Tryd.prog) x 34 34 w10.heap.size 3 i0 (.int .i64 0) 1 8 Tryd.underlying34 hi hz0 hz1 hz2 rfl (by decide) b9 hb9 hx.size X9 wa ks.length wc (ks.map (Value.int .i64)) (by simp) hwx (by unfold maxLen; omega) (by omega)
            refine looseR_append (.tmp 95) (.tmp 96) 34 rfl rfl rfl r1 ?_
            exact ⟨hx.trans (r3.mono hx.size), XGt.of r3, a5, c5, r5, by rw [← r5]; exact r2, fun q => by rw [r4 q] at r5; simp only [Value.slice.injEq] at r5; exact r5.2.2.symm⟩
          case h2 =>
          rintro v F11 H11 ⟨_, _, _, a11, c11, rfl, _⟩
          try simp only [Act.put, List.setIfInBounds_toArray, List.set_cons_zero, List.set_cons_succ]
          refine wpL_pure (v := ?_) (by rfl) (by rfl) ?hv ?hn
          case hv =>
            intro x hx
            go_simp
            all_goals (try with_reducible rfl)
          case hn =>
          try simp only [Act.put, List.setIfInBounds_toArray, List.set_cons_zero, List.set_cons_succ]
          refine wpL_fact (by rfl) (by rfl) ?h1 ?h2
          case h1 =>
            intro x hx _
            go_simp
            simp only [looseR]
            exact ⟨hx.alloc hx.size _, XGt.of ((Below.refl _ _).alloc (Nat.le_refl _) _), x.heap.size, rfl, hx.size, Bx.new x _ _⟩
          case h2 =>
          rintro v F13 H13 ⟨_, _, _, b13, rfl, hb13, _⟩
          try simp only [Act.put, List.setIfInBounds_toArray, List.set_cons_zero, List.set_cons_succ]
          refine wpL_fact (by rfl) (by rfl) ?h1 ?h2
          case h1 =>
            intro x hx hf
            obtain ⟨b13', e13, _, X13⟩ := H13 x (hf.1 (by kernel_rfl))
            cases e13
            obtain ⟨a11', c11', e11, O11, z11⟩ := H11 x (hf.2.1 (by kernel_rfl))
            cases e11
            clear hf
            obtain ⟨v', w', r1, r2, r3, r4, a5, c5, r5, _⟩ := run_append_more (P := Tryd.prog) x 34 34 w10.heap.size 3 i0 (.int .i64 0) 1 8 Tryd.underlying34 hi hz0 hz1 hz2 rfl (by decide) _ ks.length _ O11 (fun q a c e => by have := z11 q; simp only [Value.slice.injEq] at e; omega) hx.size ⟨b13, 0, none⟩ 1 [.int .i64 id] rfl (HONE.out x b13 X13) (by simp [Value.oneCell']) (by unfold maxLen; omega) (by omega)
            refine looseR_append (.tmp 97) (.tmp 99) 34 rfl rfl rfl r1 ?_
            exact ⟨r4 _ _ (Nat.le_refl _) hx, ⟨fun q => absurd rfl q, HLO.out ▸ r3⟩, a5, c5, r5, by rw [← r5]; exact r2⟩
          case h2 =>
          rintro v F14 H14 ⟨_, _, _, a14, c14, rfl, _⟩
          try simp only [Act.put, List.setIfInBounds_toArray, List.set_cons_zero, List.set_cons_succ]
          refine wpL_fact (by rfl) (by rfl) ?h1 ?h2
          case h1 =>
            intro x hx hf
            obtain ⟨a14', c14', e14, O14⟩ := H14 x (hf.1 (by kernel_rfl))
            cases e14
            clear hf
            have h14 : IntsLow x.heap.size x (some a14) (ks ++ [id]) := (ints_of_own (cap := c14) (e := 3) (base := w10.heap.size) (by simpa using O14)).low
            have h15 := HKID.out x hx
            go_simp
            simp only [looseR]
            have HC := lpInts_eq x.heap.size _ _ kc c14 (ks ++ [id]) x (Nat.le_refl _) h15 h14 (by simp; omega)
            rw [show (ks ++ [id]).length = ks.length + 1 by simp] at HC
            refine HC.mono ?_
            rintro _ y ⟨rfl, bN⟩
            exact ⟨_, rfl, hx.trans (bN.mono hx.size), XGt.of bN, rfl⟩
          case h2 =>
          rintro v F15 H15 ⟨_, _, _, rfl⟩
          try simp only [Act.put, List.setIfInBounds_toArray, List.set_cons_zero, List.set_cons_succ]
          refine wpL_pure (v := ?_) (by rfl) (by rfl) ?hv ?hn
          case hv =>
            intro x hx
            go_simp
            all_goals (try with_reducible rfl)
          case hn =>
          try simp only [Act.put, List.setIfInBounds_toArray, List.set_cons_zero, List.set_cons_succ]
          refine wpL_pure (v := ?_) (by rfl) (by rfl) ?hv ?hn
          case hv =>
            intro x hx
            go_simp
            all_goals (try with_reducible rfl)
          case hn =>
          try simp only [Act.put, List.setIfInBounds_toArray, List.set_cons_zero, List.set_cons_succ]
          refine wpL_pure (v := ?_) (by rfl) (by rfl) ?hv ?hn
          case hv =>
            intro x hx
            go_simp
            all_goals (try with_reducible rfl)
          case hn =>
          try simp only [Act.put, List.setIfInBounds_toArray, List.set_cons_zero, List.set_cons_succ]
          refine wpL_pure (v := ?_) (by rfl) (by rfl) ?hv ?hn
          case hv =>
            intro x hx
            go_simp
            all_goals (try with_reducible rfl)
          case hn =>
          try simp only [Act.put, List.setIfInBounds_toArray, List.set_cons_zero, List.set_cons_succ]
          refine wpL_pure (v := ?_) (by rfl) (by rfl) ?hv ?hn
          case hv =>
            intro x hx
            go_simp
            all_goals (try with_reducible rfl)
          case hn =>
          try simp only [Act.put, List.setIfInBounds_toArray, List.set_cons_zero, List.set_cons_succ]
          refine wpL_fact (by rfl) (by rfl) ?h1 ?h2
          case h1 =>
            intro x hx _
            go_simp
            simp only [looseR]
            refine (HA1.out x _ _ (HX.out x hx)).mono ?_
            rintro _ y ⟨rfl, rfl⟩
            exact ⟨_, rfl, hx, XGt.of (Below.refl _ _), rfl⟩
          case h2 =>
          rintro v F21 H21 ⟨_, _, _, rfl⟩
          try simp only [Act.put, List.setIfInBounds_toArray, List.set_cons_zero, List.set_cons_succ]
          refine wpL_pure (v := ?_) (by rfl) (by rfl) ?hv ?hn
          case hv =>
            intro x hx
            go_simp
            all_goals (try with_reducible rfl)
          case hn =>
          try simp only [Act.put, List.setIfInBounds_toArray, List.set_cons_zero, List.set_cons_succ]
          refine wpL_pure (v := ?_) (by rfl) (by rfl) ?hv ?hn
          case hv =>
            intro x hx
            go_simp
            all_goals (try with_reducible rfl)
          case hn =>
          try simp only [Act.put, List.setIfInBounds_toArray, List.set_cons_zero, List.set_cons_succ]
          refine wpL_pure (v := ?_) (by rfl) (by rfl) ?hv ?hn
          case hv =>
            intro x hx
            have v1 := (hx.cell (p := ⟨p1, f1 + q1 * 3 + 1, none⟩) hpB1).trans v1
            go_simp
            all_goals (try with_reducible rfl)
          case hn =>
          try simp only [Act.put, List.setIfInBounds_toArray, List.set_cons_zero, List.set_cons_succ]
          refine wpL_pure (v := ?_) (by rfl) (by rfl) ?hv ?hn
          case hv =>
            intro x hx
            go_simp
            all_goals (try with_reducible rfl)
          case hn =>
          try simp only [Act.put, List.setIfInBounds_toArray, List.set_cons_zero, List.set_cons_succ]
          refine wpL_pure (v := ?_) (by rfl) (by rfl) ?hv ?hn
          case hv =>
            intro x hx
            go_simp
            all_goals (try with_reducible rfl)
          case hn =>
          try simp only [Act.put, List.setIfInBounds_toArray, List.set_cons_zero, List.set_cons_succ]
          refine wpL_pure (v := ?_) (by rfl) (by rfl) ?hv ?hn
          case hv =>
            intro x hx
            go_simp
            all_goals (try with_reducible rfl)
          case hn =>
          try simp only [Act.put, List.setIfInBounds_toArray, List.set_cons_zero, List.set_cons_succ]
          refine wpL_fact (by rfl) (by rfl) ?h1 ?h2
          case h1 =>
            intro x hx _
            go_simp
            simp only [looseR]
            refine (HA2.out x (HR.out x hx)).mono ?_
            rintro _ y ⟨rfl, rfl⟩
            exact ⟨_, rfl, hx, XGt.of (Below.refl _ _), rfl⟩
          case h2 =>
          rintro v F28 H28 ⟨_, _, _, rfl⟩
          try simp only [Act.put, List.setIfInBounds_toArray, List.set_cons_zero, List.set_cons_succ]
          refine wpL_pure (v := ?_) (by rfl) (by rfl) ?hv ?hn
          case hv =>
            intro x hx
            go_simp
            all_goals (try with_reducible rfl)
          case hn =>
          try simp only [Act.put, List.setIfInBounds_toArray, List.set_cons_zero, List.set_cons_succ]
          refine wpL_pure (v := ?_) (by rfl) (by rfl) ?hv ?hn
          case hv =>
            intro x hx
            go_simp
            all_goals (try with_reducible rfl)
          case hn =>
          try simp only [Act.put, List.setIfInBounds_toArray, List.set_cons_zero, List.set_cons_succ]
          refine wpL_pure (v := ?_) (by rfl) (by rfl) ?hv ?hn
          case hv =>
            intro x hx
            have u1 := (hx.cell (p := ⟨p2, f2 + q2 * 3 + 1, none⟩) hpB2).trans u1
            go_simp
            all_goals (try with_reducible rfl)
          case hn =>
          try simp only [Act.put, List.setIfInBounds_toArray, List.set_cons_zero, List.set_cons_succ]
          refine wpL_pure (v := ?_) (by rfl) (by rfl) ?hv ?hn
          case hv =>
            intro x hx
            have g8 := g8
            go_simp
            all_goals (try with_reducible rfl)
          case hn =>
          try simp only [Act.put, List.setIfInBounds_toArray, List.set_cons_zero, List.set_cons_succ]
          refine wpL_pure (v := ?_) (by rfl) (by rfl) ?hv ?hn
          case hv =>
            intro x hx
            go_simp
            all_goals (try with_reducible rfl)
          case hn =>
          try simp only [Act.put, List.setIfInBounds_toArray, List.set_cons_zero, List.set_cons_succ]
          refine wpL_pure (v := ?_) (by rfl) (by rfl) ?hv ?hn
          case hv =>
            intro x hx
            go_simp
            all_goals (try with_reducible rfl)
          case hn =>
          try simp only [Act.put, List.setIfInBounds_toArray, List.set_cons_zero, List.set_cons_succ]
          refine wpL_pure (v := ?_) (by rfl) (by rfl) ?hv ?hn
          case hv =>
            intro x hx
            go_simp
            all_goals (try with_reducible rfl)
          case hn =>
          try simp only [Act.put, List.setIfInBounds_toArray, List.set_cons_zero, List.set_cons_succ]
          refine wpL_nil fun x hx hf => ?_
          clear hf H1 H9 H11 H13 H14 H15 H21 H28
          try dsimp only
          go_wp2
          go_ret
          exact ⟨by first | rfl | simp, b10.trans (hx.mono b10.size)⟩
  · exact fnKeyIn_long _ _ _ _ hlens
end Go.Proofs.YtclhjgcapalniaaDoor
