/-
  The walk of the law FnUnderThree out of the contracts. Conditions: the arguments read as bytes; the table 'creators' holds what its initialiser lays.
-/
import Derived.Test.YtiigkjpabbgnpaaDoorDUnder
import Derived.Test.YtiigkjpabbgnpaaDoorTImpl2
namespace Go.Proofs.YtiigkjpabbgnpaaDoor
open Go.ChangeShapes Go.WideShapes Go.ChangeAt Go.RowKit Go.Joins

theorem undT_tree {rs : List RowD} {z u : Int} (h : undT rs z u = true) : treeB rs = true := by
  simp only [undT, Bool.and_eq_true] at h; exact h.1
theorem undT_trans {rs : List RowD} {z u v : Int} (h : undT rs z u = true) (h' : undT rs u v = true) : undT rs z v = true := by
  simp only [undT, undB, Bool.and_eq_true, decide_eq_true_eq] at h h' ⊢
  obtain ⟨ht, ⟨⟨h1, h2⟩, h3⟩, h4⟩ := h
  obtain ⟨_, ⟨⟨_, g2⟩, g3⟩, g4⟩ := h'
  have := un_trans (D := rdep rs) (m := rs.length) g2 h2 ⟨h3, h4⟩ ⟨g3, g4⟩
  exact ⟨ht, ⟨⟨h1, g2⟩, this.1⟩, this.2⟩
theorem fnUnderThree_long (a0 : Option Addr) (len0 cap0 : Nat) (a1 : Option Addr) (len1 cap1 : Nat) (w : World) (h0 : len0 ≤ maxLen) (h1 : len1 ≤ maxLen) (h : ¬ ((len0 : Int) ≤ 1048576 ∧ (len1 : Int) ≤ 1048576)) :
    Calls Tryd.prog 11 #[.slice a0 len0 cap0, .slice a1 len1 cap1] w fun e w' => e = .returned (.bool true) ∧ Below w.heap.size w w' := by
  unfold maxLen at h0 h1
  by_cases g : (len0 : Int) ≤ 1048576
  · have g2 : ¬ (len1 : Int) ≤ 1048576 := fun g2 => h ⟨g, g2⟩
    clear h
    go_enter Tryd.func11, Tryd.ntmps11
    go_wp2
    go_ret
    exact ⟨rfl, Below.refl _ _⟩
  · clear h
    go_enter Tryd.func11, Tryd.ntmps11
    go_wp2
    go_ret
    exact ⟨rfl, Below.refl _ _⟩
set_option maxRecDepth 100000 in
set_option maxHeartbeats 2000000 in
theorem fnUnderThree_walk (w : World) (ht : Tab w) (a0 : Option Addr) (len0 cap0 : Nat) (b0 : Bytes w a0 len0 cap0) (a1 : Option Addr) (len1 cap1 : Nat) (b1 : Bytes w a1 len1 cap1) :
    Calls Tryd.prog 11 #[.slice a0 len0 cap0, .slice a1 len1 cap1] w fun e w' => e = .returned (.bool true) ∧ Below w.heap.size w w' := by
  have hz := ht.pos
  by_cases hlen : (len0 : Int) ≤ 1048576 ∧ (len1 : Int) ≤ 1048576
  · obtain ⟨l0, l1⟩ := hlen
    go_enter Tryd.func11, Tryd.ntmps11
    go_wp2_with fail
    refine (drawTreeUnder_any _ _ _ _ b0).mono ?_
    rintro e w1 ⟨a, cap, rs, z, u, rfl, z0, z1, hl, hb⟩
    have hlen := hl.len
    have hfit := Lib.hid hl.fit
    have ht1 := ht.below hb hz
    have hr1 := hl.rows
    clear hl b0
    go_wp2_with fail
    refine (implTreeUnder_any w1.heap.size _ _ _ _ _ _ (Nat.le_refl _) hr1 hfit.out ht1).mono ?_
    rintro e w2 ⟨rfl, hb2⟩
    have hr2 := (hr1.below hb2).mono hb2.size
    have b2 : Below w.heap.size w w2 := hb.trans (hb2.mono hb.size)
    clear hb2 hr1 ht1 hb
    go_wp2_with fail
    refine (specTreeUnder_any w2.heap.size _ _ _ _ _ _ (Nat.le_refl _) hr2 hfit.out).mono ?_
    rintro e w3 ⟨rfl, hb3⟩
    have hr3 := (hr2.below hb3).mono hb3.size
    have b3 : Below w.heap.size w w3 := b2.trans (hb3.mono b2.size)
    clear hb3 hr2 b2
    cases hU : undT rs z u
    · go_wp2_with fail
      refine (specTreeOk_any w3.heap.size _ _ _ _ (Nat.le_refl _) hr3 hfit.out).mono ?_
      rintro e w4 ⟨rfl, hb4⟩
      have hr4 := (hr3.below hb4).mono hb4.size
      have b4 : Below w.heap.size w w4 := b3.trans (hb4.mono b3.size)
      clear hb4 hr3 b3
      have hS := specTreeUnder_any w4.heap.size a cap rs z u w4 (Nat.le_refl _) hr4 hfit.out
      rw [hU] at hS
      have HS := Lib.hid hS
      clear hS
      cases hT : treeB rs
      · go_wp2_with fail
        refine HS.out.mono ?_
        rintro e w5 ⟨rfl, hb5⟩
        have b5 : Below w.heap.size w w5 := b4.trans (hb5.mono b4.size)
        go_wp2
        go_ret
        exact ⟨rfl, b5⟩
      · go_wp2_with fail
        refine HS.out.mono ?_
        rintro e w5 ⟨rfl, hb5⟩
        have b5 : Below w.heap.size w w5 := b4.trans (hb5.mono b4.size)
        go_wp2
        go_ret
        exact ⟨rfl, b5⟩
    · have hS := specTreeOk_any w3.heap.size a cap rs w3 (Nat.le_refl _) hr3 hfit.out
      rw [undT_tree hU] at hS
      have HS := Lib.hid hS
      clear hS
      go_wp2_with fail
      refine HS.out.mono ?_
      rintro e w4 ⟨rfl, hb4⟩
      have hr4 := (hr3.below hb4).mono hb4.size
      have b4 : Below w.heap.size w w4 := b3.trans (hb4.mono b3.size)
      clear hb4 hr3 b3 HS
      have hi : len1 % rs.length < rs.length := Nat.mod_lt _ (by omega)
      obtain ⟨g, off, rfl, hg, c0, c1, c2⟩ := hr4.at_ hi
      have HU := Lib.hid hU
      clear hU
      have hrem : ((len1 : Int) % (rs.length : Int)) = ((len1 % rs.length : Nat) : Int) := rfl
      generalize hq : len1 % rs.length = q at *
      clear hq
      have hrl : ¬ (rs.length : Int) = 0 := by omega
      have ht4 := ht.below b4 hz
      generalize (rat rs q).id = v at *
      go_wp2_with fail
      refine (implTreeUnder_any w4.heap.size _ _ _ _ _ _ (Nat.le_refl _) hr4 hfit.out ht4).mono ?_
      rintro e w5 ⟨rfl, hb5⟩
      have hr5 := (hr4.below hb5).mono hb5.size
      have b5 : Below w.heap.size w w5 := b4.trans (hb5.mono b4.size)
      have ht5 := ht.below b5 hz
      clear hb5 hr4 b4 ht4 c0 c1 c2
      cases hV : undT rs u v
      · go_wp2
        go_ret
        exact ⟨rfl, b5⟩
      · have hS := implTreeUnder_any w5.heap.size (some ⟨g, off, none⟩) cap rs z v w5 (Nat.le_refl _) hr5 hfit.out ht5
        rw [undT_trans HU.out hV] at hS
        have HS := Lib.hid hS
        clear hS
        go_wp2_with fail
        refine HS.out.mono ?_
        rintro e w6 ⟨rfl, hb6⟩
        have b6 : Below w.heap.size w w6 := b5.trans (hb6.mono b5.size)
        go_wp2
        go_ret
        exact ⟨rfl, b6⟩
  · exact fnUnderThree_long _ _ _ _ _ _ _ (Nat.le_trans b0.1 b0.2.1) (Nat.le_trans b1.1 b1.2.1) hlen
end Go.Proofs.YtiigkjpabbgnpaaDoor
