/-
  The walk of the law FnInDepth out of the contracts. Conditions: the argument reads as bytes; the table 'creators' holds what its initialiser lays.
-/
import Derived.Test.YtlhlkbbjmbpgpaaDoorGI
import Derived.Test.YtlhlkbbjmbpgpaaDoorJDrawK
import Derived.Test.YtlhlkbbjmbpgpaaDoorJKeyM
import Derived.Test.YtlhlkbbjmbpgpaaDoorJKeyM2
import Derived.Test.YtlhlkbbjmbpgpaaDoorJLInOut
import Derived.Deep.RegionHeld3
namespace Go.Proofs.YtlhlkbbjmbpgpaaDoor
open Go.ChangeShapes Go.WideShapes Go.ChangeAt Go.RowKit Go.Joins

theorem fnInDepth_long (a0 : Option Addr) (len0 cap0 : Nat) (w : World) (h : ¬ (len0 : Int) ≤ 1048576) :
    Calls Tryd.prog 18 #[.slice a0 len0 cap0] w fun e w' => e = .returned (.bool true) ∧ Below w.heap.size w w' := by
  go_enter Tryd.func18, Tryd.ntmps18
  go_wp2
  go_ret
  exact ⟨rfl, Below.refl _ _⟩
set_option maxRecDepth 100000 in
set_option maxHeartbeats 4000000 in
theorem fnInDepth_walk (w : World) (ht : Tab w) (a0 : Option Addr) (len0 cap0 : Nat) (b0 : Bytes w a0 len0 cap0) :
    Calls Tryd.prog 18 #[.slice a0 len0 cap0] w fun e w' => e = .returned (.bool true) ∧ Below w.heap.size w w' := by
  have hz := ht.pos
  by_cases hlens : (len0 : Int) ≤ 1048576
  · go_enter Tryd.func18, Tryd.ntmps18
    go_wp2_with fail
    refine (drawKeyIn_any _ _ _ _ b0).mono ?_
    rintro e w1 ⟨a, cap, rs, id, rfl, id0, id1, hl, hb1⟩
    have hlen := hl.len
    have hcap := hl.cap
    have hfit := Lib.hid hl.fit
    have hI : Hid (I64 id) := ⟨by omega, by omega⟩
    have hr1 := hl.rows
    clear hl b0
    have HS : Hid (∀ x, RowsAt x.heap.size x a rs → Calls Tryd.prog 42 #[.slice a rs.length cap, .int .i64 id] x (RetBelow (keyV (kinO rs id) (kinB rs id)) x)) := fun x h => specKeyIn_any _ a cap rs id x (Nat.le_refl _) h hfit.out
    have HM : Hid (∀ x, RowsAt x.heap.size x a rs → Tab x → Calls Tryd.prog 43 #[.slice a rs.length cap, .int .i64 id] x (RetBelow (keyV (kinO rs id) (kinB rs id)) x)) := fun x h1 h2 => implKeyIn_any _ a cap rs id x (Nat.le_refl _) h1 hfit.out h2
    have HD : Hid ((kinB rs id) = true → treeB rs = true ∧ OpFit (kinO rs id) ∧ (doT rs (kinO rs id)).length = rs.length ∧ ∀ i, i < rs.length → (rat (doT rs (kinO rs id)) i).id = (rat rs i).id ∧ (rat (doT rs (kinO rs id)) i).dep = (rat rs i).dep + (if undT rs (rat rs i).id id then 1 else 0)) := fun h => ⟨(kin_parts h).1, kin_fit h, (in_rows h).1, (in_rows h).2⟩
    generalize kinO rs id = o at *
    generalize kinB rs id = b at *
    simp only [keyV] at HS HM
    go_wp2_with fail
    refine (HS.out _ hr1).mono ?_
    rintro e w2 ⟨rfl, hb2⟩
    have hal2 : Below w2.heap.size w2 (w2.alloc (.cells #[.int .i64 o.kind, .int .i64 o.id, .int .i64 o.up, .int .i64 o.at_, .string o.txt] 25)) := (Below.refl _ _).alloc (Nat.le_refl _) _
    have c2 := hb2.trans (hal2.mono hb2.size)
    have hr2 := (hr1.below c2).mono c2.size
    have b2 := hb1.trans (c2.mono hb1.size)
    have ht2 := ht.below b2 hz
    have k2 := OBox.new w2 o
    clear hb2 hal2 c2 hr1 hb1
    go_wp2_with fail
    refine (HM.out _ hr2 ht2).mono ?_
    rintro e w3 ⟨rfl, hb3⟩
    have hal3 : Below w3.heap.size w3 (w3.alloc (.cells #[.int .i64 o.kind, .int .i64 o.id, .int .i64 o.up, .int .i64 o.at_, .string o.txt] 25)) := (Below.refl _ _).alloc (Nat.le_refl _) _
    have c3 := hb3.trans (hal3.mono hb3.size)
    have hr3 := (hr2.below c3).mono c3.size
    have b3 := b2.trans (c3.mono b2.size)
    have ht3 := ht.below b3 hz
    have k3 := k2.below c3 k2.lt
    have j3 := OBox.new w3 o
    have HBK : Hid (∀ x, Below (w3.alloc (.cells #[.int .i64 o.kind, .int .i64 o.id, .int .i64 o.up, .int .i64 o.at_, .string o.txt] 25)).heap.size (w3.alloc (.cells #[.int .i64 o.kind, .int .i64 o.id, .int .i64 o.up, .int .i64 o.at_, .string o.txt] 25)) x → OBox x w2.heap.size o ∧ OBox x w3.heap.size o) := fun x hx => ⟨k3.below hx k3.lt, j3.below hx j3.lt⟩
    have c30 : Below (w3.alloc (.cells #[.int .i64 o.kind, .int .i64 o.id, .int .i64 o.up, .int .i64 o.at_, .string o.txt] 25)).heap.size (w3.alloc (.cells #[.int .i64 o.kind, .int .i64 o.id, .int .i64 o.up, .int .i64 o.at_, .string o.txt] 25)) (w3.alloc (.cells #[.int .i64 o.kind, .int .i64 o.id, .int .i64 o.up, .int .i64 o.at_, .string o.txt] 25)) := Below.refl _ _
    obtain ⟨x0, x1, x2, x3, x4⟩ := k3.cells
    obtain ⟨y0, y1, y2, y3, y4⟩ := j3.cells
    clear hb3 hal3 c3 hr2 b2 ht2 k2 k3 j3
    cases b
    · go_wp2
      go_ret
      exact ⟨by first | rfl | simp, b3⟩
    · obtain ⟨hT, hof, hLn, hE⟩ := HD.out rfl
      have HL := Lib.hid hLn
      have HE := Lib.hid hE
      have HTP : Hid (∀ i, i < rs.length → 0 ≤ (rat rs i).dep ∧ (rat rs i).dep ≤ 18) := fun i hi => rok_dep ((treeP_of hT).rok i hi)
      clear HD HS HM hLn hE hT HBK
      have HO := Lib.hid (implOpDo_any _ a cap rs o _ (Nat.le_refl _) hr3 hfit.out hof ht3)
      have HU : Hid (∀ x i, RowsAt x.heap.size x a rs → Tab x → Calls Tryd.prog 35 #[.slice a rs.length cap, .int .i64 (rat rs i).id, .int .i64 id] x (RetBelow (.bool (undT rs (rat rs i).id id)) x)) := fun x i h1 h2 => implTreeUnder_any _ a cap rs _ id x (Nat.le_refl _) h1 hfit.out h2
      generalize doT rs o = res at *
      go_wp2_with fail
      refine HO.out.mono ?_
      rintro e w5 ⟨xa, xc, rfl, own5, hxc, hb5⟩
      have hx5 := (got_own own5).rows
      have hr5 := (hr3.below hb5).mono hb5.size
      have b5 := b3.trans (hb5.mono b3.size)
      clear own5 hb5 hr3 b3 ht3 x0 x1 x2 x3 x4 y0 y1 y2 y3 y4 c30 HO hof
      go_wp2_with fail
      go_loopw [10] (fun i wr => ∃ k : Nat, k ≤ rs.length ∧ i = .int .i64 k ∧ Below w5.heap.size w5 wr) (fun i _ => rs.length - (intOf i).toNat)
      case atStart => exact ⟨0, Nat.zero_le _, rfl, Below.refl _ _⟩
      case round =>
        obtain ⟨k, hk, rfl, hb⟩ := hrel
        have hr := (hr5.below hb).mono hb.size
        have hx := (hx5.below hb).mono hb.size
        have bw := b5.trans (hb.mono b5.size)
        have htw := ht.below bw hz
        by_cases hlt : k < rs.length
        · have HLk : Hid (k < res.length) := by show k < res.length; rw [HL.out]; exact hlt
          have i1 : (k : Int) < (rs.length : Int) := by omega
          have i2 : (k : Int) < (res.length : Int) := by have := HLk.out; omega
          obtain ⟨p, off, rfl, hpB, c0, c1, c2⟩ := hr.at_ hlt
          obtain ⟨p', off', rfl, hpB', d0, d1, d2⟩ := hx.at_ HLk.out
          obtain ⟨f1, f2⟩ := HE.out k hlt
          rw [f1] at d0
          obtain ⟨g1, g2⟩ := HTP.out k hlt
          have HC := Lib.hid (HU.out wr k hr htw)
          clear c0 c1 c2 d2 f1 hr hx htw
          obtain ⟨p2, off2, e2, hpB2, c0, c1, c2⟩ := ((hr5.below hb).mono hb.size).at_ hlt
          cases e2
          cases hu : undT rs (rat rs k).id id
          · rw [hu] at HC f2
            simp only [Bool.false_eq_true, if_false, Int.add_zero] at f2
            rw [f2] at d1
            clear f2
            go_wp2_with fail
            refine HC.out.mono ?_
            rintro e w6 ⟨rfl, hb6⟩
            have z0 := (hb6.cell (p := ⟨p, off + k * 3, none⟩) hpB2).trans c0
            have z1 := (hb6.cell (p := ⟨p, off + k * 3 + 1, none⟩) hpB2).trans c1
            have v0 := (hb6.cell (p := ⟨p', off' + k * 3, none⟩) hpB').trans d0
            have v1 := (hb6.cell (p := ⟨p', off' + k * 3 + 1, none⟩) hpB').trans d1
            have hb7 := hb.trans (hb6.mono hb.size)
            clear c0 c1 c2 d0 d1 HC hb6
            go_wp2_with fail
            go_region
            all_goals
              go_wp2
              go_roundw
              case rel => exact ⟨k + 1, by omega, by go_num, hb7.drew⟩
              case measure => simp [intOf]; omega
          · rw [hu] at HC f2
            simp only [if_true] at f2
            rw [f2] at d1
            clear f2
            go_wp2_with fail
            refine HC.out.mono ?_
            rintro e w6 ⟨rfl, hb6⟩
            have z0 := (hb6.cell (p := ⟨p, off + k * 3, none⟩) hpB2).trans c0
            have z1 := (hb6.cell (p := ⟨p, off + k * 3 + 1, none⟩) hpB2).trans c1
            have v0 := (hb6.cell (p := ⟨p', off' + k * 3, none⟩) hpB').trans d0
            have v1 := (hb6.cell (p := ⟨p', off' + k * 3 + 1, none⟩) hpB').trans d1
            have hb7 := hb.trans (hb6.mono hb.size)
            clear c0 c1 c2 d0 d1 HC hb6
            go_wp2_with fail
            go_region
            all_goals
              go_wp2
              go_roundw
              case rel => exact ⟨k + 1, by omega, by go_num, hb7.drew⟩
              case measure => simp [intOf]; omega
        · have HLn : (res.length : Int) = (rs.length : Int) := by have := HL.out; omega
          go_wp2
          go_ret
          exact ⟨by first | rfl | simp, bw⟩
  · exact fnInDepth_long _ _ _ _ hlens
end Go.Proofs.YtlhlkbbjmbpgpaaDoor
