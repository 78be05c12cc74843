/-
  The walk of the law FnDoTexts out of the contracts. Conditions: the arguments read as bytes; the table 'creators' holds what its initialiser lays.
-/
import Derived.Test.YtlhlkbbjmbpgpaaDoorGI
import Derived.Test.YtlhlkbbjmbpgpaaDoorGH
import Derived.Test.YtlhlkbbjmbpgpaaDoorJLDoTwice
import Derived.Test.YtlhlkbbjmbpgpaaDoorJOpOkI
import Derived.Deep.RegionHeld3
namespace Go.Proofs.YtlhlkbbjmbpgpaaDoor
open Go.ChangeShapes Go.WideShapes Go.ChangeAt Go.RowKit Go.Joins

theorem doT_texts {rs : List RowD} {o p : OpD} (h1 : treeB rs = true) (h2 : opokB o = true) (hk : p.kind = 2) (hp : opokB p = true) (hne : p.id ≠ o.id) : doT (doT rs o) p = doT (doT rs p) o := by
  rw [doT_eq h1 h2, doT_eq h1 hp, doT_eq (do_tree h1 h2) hp, doT_eq (do_tree h1 hp) h2]
  exact do_texts h1 h2 hk hne
theorem fnDoTexts_long (a0 : Option Addr) (len0 cap0 : Nat) (a1 : Option Addr) (len1 cap1 : Nat) (w : World) (h : ¬ ((len0 : Int) ≤ 1048576 ∧ (len1 : Int) ≤ 1048576)) :
    Calls Tryd.prog 12 #[.slice a0 len0 cap0, .slice a1 len1 cap1] w fun e w' => e = .returned (.bool true) ∧ Below w.heap.size w w' := by
  by_cases h0 : (len0 : Int) ≤ 1048576
  · have h1 : ¬ (len1 : Int) ≤ 1048576 := fun g => h ⟨h0, g⟩
    clear h
    go_enter Tryd.func12, Tryd.ntmps12
    go_wp2
    go_ret
    exact ⟨rfl, Below.refl _ _⟩
  · clear h
    go_enter Tryd.func12, Tryd.ntmps12
    go_wp2
    go_ret
    exact ⟨rfl, Below.refl _ _⟩
set_option maxRecDepth 100000 in
set_option maxHeartbeats 4000000 in
theorem fnDoTexts_walk (w : World) (ht : Tab w) (a0 : Option Addr) (len0 cap0 : Nat) (b0 : Bytes w a0 len0 cap0) (a1 : Option Addr) (len1 cap1 : Nat) (_b1 : Bytes w a1 len1 cap1) :
    Calls Tryd.prog 12 #[.slice a0 len0 cap0, .slice a1 len1 cap1] w fun e w' => e = .returned (.bool true) ∧ Below w.heap.size w w' := by
  have hz := ht.pos
  by_cases hlens : (len0 : Int) ≤ 1048576 ∧ (len1 : Int) ≤ 1048576
  · obtain ⟨hl0, hl1⟩ := hlens
    go_enter Tryd.func12, Tryd.ntmps12
    go_wp2_with fail
    refine (drawOpDo_any _ _ _ _ b0).mono ?_
    rintro e w1 ⟨a, cap, rs, o, ho, rfl, hl, hb⟩
    have hlen := hl.len
    have hcap := hl.cap
    have hfit := Lib.hid hl.fit
    have hofit := Lib.hid ho.fit
    have hopS := Lib.hid ho
    have hal : Below w1.heap.size w1 (w1.alloc (.cells #[.int .i64 o.kind, .int .i64 o.id, .int .i64 o.up, .int .i64 o.at_, .string o.txt] 25)) := (Below.refl _ _).alloc (Nat.le_refl _) _
    have hb1 := hb.trans (hal.mono hb.size)
    have hr1 := (hl.rows.below hal).mono hal.size
    have ht1 := ht.below hb1 hz
    clear hl b0 hb _b1
    go_wp2_with fail
    refine (implOpDo_any _ _ _ _ _ _ (Nat.le_refl _) hr1 hfit.out hofit.out ht1).mono ?_
    rintro e w2 ⟨xa, xc, rfl, own2, hxc, hb2⟩
    have HB : Hid (∀ x, Below w2.heap.size w2 x → x.cell? ⟨w1.heap.size, 0, none⟩ = some (.int .i64 o.kind) ∧ x.cell? ⟨w1.heap.size, 1, none⟩ = some (.int .i64 o.id) ∧ x.cell? ⟨w1.heap.size, 2, none⟩ = some (.int .i64 o.up) ∧ x.cell? ⟨w1.heap.size, 3, none⟩ = some (.int .i64 o.at_) ∧ x.cell? ⟨w1.heap.size, 4, none⟩ = some (.string o.txt)) := fun x hx => ((OBox.new w1 o).below (hb2.trans (hx.mono hb2.size)) (OBox.new w1 o).lt).cells
    have hr2 := (hr1.below hb2).mono hb2.size
    have hx2 := (got_own own2).rows
    have HXC := Lib.hid (own_capm own2)
    have b2 := hb1.trans (hb2.mono hb1.size)
    have hrl : (doT rs o).length ≤ 1048576 := by have := doT_len rs o; omega
    have HT : Hid (treeB rs = true → opokB o = true → treeB (doT rs o) = true) := fun h1 h2 => doT_tree h1 h2
    clear hr1 own2 hb2 hal hb1 ht1
    have HS : Hid (∀ x, RowsAt x.heap.size x a rs → Calls Tryd.prog 32 #[.slice a rs.length cap, .agg #[.int .i64 o.kind, .int .i64 o.id, .int .i64 o.up, .int .i64 o.at_, .string o.txt]] x (RetOwn (doT rs o) x)) := fun x h => specOpDo_any _ _ _ rs o x (Nat.le_refl _) h hfit.out hofit.out hcap.1 hcap.2
    have HD : Hid (treeB rs = true → opokB o = true → ∀ p : OpD, p.kind = 2 → opokB p = true → p.id ≠ o.id → doT (doT rs o) p = doT (doT rs p) o ∧ treeB (doT rs p) = true) := fun h1 h2 p hk hp hne => ⟨doT_texts h1 h2 hk hp hne, doT_tree h1 hp⟩
    generalize doT rs o = res at *
    obtain ⟨x0, x1, x2, x3, x4⟩ := HB.out w2 (Below.refl _ _)
    go_wp2_with fail
    refine (HS.out w2 hr2).mono ?_
    rintro e w3 ⟨ya, yc, rfl, own3, hyc, hb3⟩
    have hy3 := (got_own own3).rows
    have hx3 := (hx2.below hb3).mono hb3.size
    have hr3 := (hr2.below hb3).mono hb3.size
    have b3 := b2.trans (hb3.mono b2.size)
    have c3 := hb3
    clear own3 x0 x1 x2 x3 x4 hr2 hx2 b2 hb3
    go_wp2_with fail
    refine (lpRows_same _ _ _ _ _ _ _ (Nat.le_refl _) hx3 hy3 hrl).mono ?_
    rintro e w4 ⟨rfl, hb4⟩
    have hx4 := (hx3.below hb4).mono hb4.size
    have hr4 := (hr3.below hb4).mono hb4.size
    have b4 := b3.trans (hb4.mono b3.size)
    have c4 := c3.trans (hb4.mono c3.size)
    clear hx3 hr3 b3 c3 hb4 hy3
    go_wp2_with fail
    refine (specTreeOk_any _ _ _ _ _ (Nat.le_refl _) hr4 hfit.out).mono ?_
    rintro e w5 ⟨rfl, hb5⟩
    have hx5 := (hx4.below hb5).mono hb5.size
    have hr5 := (hr4.below hb5).mono hb5.size
    have b5 := b4.trans (hb5.mono b4.size)
    have c5 := c4.trans (hb5.mono c4.size)
    clear hx4 hr4 b4 c4 hb5
    obtain ⟨x0, x1, x2, x3, x4⟩ := HB.out w5 c5
    have HL : Hid (∀ x va vc, RowsAt x.heap.size x xa res → RowsAt x.heap.size x va res → Calls Tryd.prog 31 #[.slice xa res.length xc, .slice va res.length vc] x (RetBelow (.bool true) x)) := fun x va vc h1 h2 => lpRows_same _ _ _ _ _ _ _ (Nat.le_refl _) h1 h2 hrl
    cases hT : treeB rs
    · go_wp2_with fail
      refine (HS.out _ hr5).mono ?_
      rintro e wa ⟨za, zc, rfl, owna, hzc, hba⟩
      have hza := (got_own owna).rows
      have hxa := (hx5.below hba).mono hba.size
      have ba := b5.trans (hba.mono b5.size)
      clear owna x0 x1 x2 x3 x4 hr5 hx5 b5 hba
      go_wp2_with fail
      refine (HL.out _ _ _ hxa hza).mono ?_
      rintro e wb ⟨rfl, hbb⟩
      have bb := ba.trans (hbb.mono ba.size)
      go_wp2
      go_ret
      exact ⟨rfl, bb⟩
    · go_wp2_with fail
      refine (specOpOk_any o _ hofit.out).mono ?_
      rintro e w6 ⟨rfl, hb6⟩
      have hx6 := (hx5.below hb6).mono hb6.size
      have hr6 := (hr5.below hb6).mono hb6.size
      have b6 := b5.trans (hb6.mono b5.size)
      have c6 := c5.trans (hb6.mono c5.size)
      clear x0 x1 x2 x3 x4 hx5 hr5 b5 c5 hb6
      obtain ⟨x0, x1, x2, x3, x4⟩ := HB.out w6 c6
      cases hK : opokB o
      · go_wp2_with fail
        refine (HS.out _ hr6).mono ?_
        rintro e wa ⟨za, zc, rfl, owna, hzc, hba⟩
        have hza := (got_own owna).rows
        have hxa := (hx6.below hba).mono hba.size
        have ba := b6.trans (hba.mono b6.size)
        clear owna x0 x1 x2 x3 x4 hr6 hx6 b6 hba
        go_wp2_with fail
        refine (HL.out _ _ _ hxa hza).mono ?_
        rintro e wb ⟨rfl, hbb⟩
        have bb := ba.trans (hbb.mono ba.size)
        go_wp2
        go_ret
        exact ⟨rfl, bb⟩
      · have hR := Lib.hid (HT.out hT hK)
        have hfx := Lib.hid (tree_fit hR.out hrl)
        have ht6 := ht.below b6 hz
        have hl3 := (treeP_of hT).len
        have hi : len1 % rs.length < rs.length := Nat.mod_lt _ (by omega)
        have hrem : ((len1 : Int) % (rs.length : Int)) = ((len1 % rs.length : Nat) : Int) := rfl
        have hiu := Lib.hid (rok_id ((treeP_of hT).rok _ hi))
        generalize hqq : len1 % rs.length = q at *
        obtain ⟨g, off, rfl, hg, e0, e1, e2⟩ := hr6.at_ hi
        obtain ⟨u, hu⟩ : ∃ u, (rat rs q).id = u := ⟨_, rfl⟩
        rw [hu] at e0 hiu
        have i1 : (q : Int) < (rs.length : Int) := by omega
        have hu2 := hiu.out
        have hpf : Hid (OpFit ⟨2, u, 0, 0, ⟨#[99, 97, 98]⟩⟩) := ⟨⟨by dsimp only; omega, by dsimp only; omega⟩, ⟨by dsimp only; omega, by dsimp only; omega⟩, ⟨by dsimp only; omega, by dsimp only; omega⟩, by show (3 : Nat) ≤ maxLen; unfold maxLen; omega⟩
        have hal7 : Below w6.heap.size w6 (w6.alloc (.cells #[.int .i64 2, .int .i64 u, .int .i64 0, .int .i64 0, .string ⟨#[99, 97, 98]⟩] 25)) := (Below.refl _ _).alloc (Nat.le_refl _) _
        have hx7 := (hx6.below hal7).mono hal7.size
        have hr7 := (hr6.below hal7).mono hal7.size
        have b7 := b6.trans (hal7.mono b6.size)
        have d7 := c6.trans (hal7.mono c6.size)
        have ht7 := ht.below b7 hz
        have HB7 : Hid (∀ x, Below (w6.heap.size + 1) (w6.alloc (.cells #[.int .i64 2, .int .i64 u, .int .i64 0, .int .i64 0, .string ⟨#[99, 97, 98]⟩] 25)) x → x.cell? ⟨w6.heap.size, 0, none⟩ = some (.int .i64 2) ∧ x.cell? ⟨w6.heap.size, 1, none⟩ = some (.int .i64 u) ∧ x.cell? ⟨w6.heap.size, 2, none⟩ = some (.int .i64 0) ∧ x.cell? ⟨w6.heap.size, 3, none⟩ = some (.int .i64 0) ∧ x.cell? ⟨w6.heap.size, 4, none⟩ = some (.string ⟨#[99, 97, 98]⟩)) := fun x hx => ((OBox.new w6 ⟨2, u, 0, 0, ⟨#[99, 97, 98]⟩⟩).below hx (Nat.lt_succ_self _)).cells
        obtain ⟨z0, z1, z2, z3, z4⟩ := HB.out _ d7
        by_cases hne : u = o.id
        · subst hne
          clear HD HT HS hT HL
          go_wp2
          go_ret
          exact ⟨rfl, b7⟩
        · have hne' : (u == o.id) = false := beq_eq_false_iff_ne.2 hne
          have HOK := Lib.hid (implOpOk_any ⟨2, u, 0, 0, ⟨#[99, 97, 98]⟩⟩ (w6.alloc (.cells #[.int .i64 2, .int .i64 u, .int .i64 0, .int .i64 0, .string ⟨#[99, 97, 98]⟩] 25)) ht7 hpf.out.txt)
          cases hpk : opokB ⟨2, u, 0, 0, ⟨#[99, 97, 98]⟩⟩
          · rw [hpk] at HOK
            clear HD HT HS hT HL
            go_wp2_with fail
            refine HOK.out.mono ?_
            rintro e w8 ⟨rfl, hb8⟩
            have b8 := b7.trans (hb8.mono b7.size)
            go_wp2
            go_ret
            exact ⟨by first | rfl | simp, b8⟩
          · rw [hpk] at HOK
            obtain ⟨E1, E2⟩ := HD.out hT hK ⟨2, u, 0, 0, ⟨#[99, 97, 98]⟩⟩ rfl hpk hne
            have hrl1 : (doT res ⟨2, u, 0, 0, ⟨#[99, 97, 98]⟩⟩).length ≤ 1048576 := by have := doT_len res ⟨2, u, 0, 0, ⟨#[99, 97, 98]⟩⟩; omega
            have hrl2 : (doT rs ⟨2, u, 0, 0, ⟨#[99, 97, 98]⟩⟩).length ≤ 1048576 := by have := doT_len rs ⟨2, u, 0, 0, ⟨#[99, 97, 98]⟩⟩; omega
            have hfx2 := Lib.hid (tree_fit E2 hrl2)
            have HO : Hid (∀ x, RowsAt x.heap.size x xa res → Tab x → Calls Tryd.prog 29 #[.slice xa res.length xc, .agg #[.int .i64 2, .int .i64 u, .int .i64 0, .int .i64 0, .string ⟨#[99, 97, 98]⟩]] x (RetOwn (doT res ⟨2, u, 0, 0, ⟨#[99, 97, 98]⟩⟩) x)) := fun x h1 h2 => implOpDo_any _ xa xc res ⟨2, u, 0, 0, ⟨#[99, 97, 98]⟩⟩ x (Nat.le_refl _) h1 hfx.out hpf.out h2
            have HO2 : Hid (∀ x, RowsAt x.heap.size x (some ⟨g, off, none⟩) rs → Tab x → Calls Tryd.prog 29 #[.slice (some ⟨g, off, none⟩) rs.length cap, .agg #[.int .i64 2, .int .i64 u, .int .i64 0, .int .i64 0, .string ⟨#[99, 97, 98]⟩]] x (RetOwn (doT rs ⟨2, u, 0, 0, ⟨#[99, 97, 98]⟩⟩) x)) := fun x h1 h2 => implOpDo_any _ (some ⟨g, off, none⟩) cap rs ⟨2, u, 0, 0, ⟨#[99, 97, 98]⟩⟩ x (Nat.le_refl _) h1 hfit.out hpf.out h2
            have HO3 : Hid (∀ x va vc, RowsAt x.heap.size x va (doT rs ⟨2, u, 0, 0, ⟨#[99, 97, 98]⟩⟩) → Tab x → Calls Tryd.prog 29 #[.slice va (doT rs ⟨2, u, 0, 0, ⟨#[99, 97, 98]⟩⟩).length vc, .agg #[.int .i64 o.kind, .int .i64 o.id, .int .i64 o.up, .int .i64 o.at_, .string o.txt]] x (RetOwn (doT res ⟨2, u, 0, 0, ⟨#[99, 97, 98]⟩⟩) x)) := by
              intro x va vc h1 h2
              have h3 := implOpDo_any _ va vc (doT rs ⟨2, u, 0, 0, ⟨#[99, 97, 98]⟩⟩) o x (Nat.le_refl _) h1 hfx2.out hofit.out h2
              rwa [← E1] at h3
            clear HD HT HS hT HL E1 E2 hfx2 hpf hiu hu2
            generalize doT res ⟨2, u, 0, 0, ⟨#[99, 97, 98]⟩⟩ = r1 at *
            generalize doT rs ⟨2, u, 0, 0, ⟨#[99, 97, 98]⟩⟩ = r2 at *
            go_wp2_with fail
            refine HOK.out.mono ?_
            rintro e w8 ⟨rfl, hb8⟩
            have hd8 : Below w8.heap.size w8 w8.drew := (Below.refl _ _).drew
            have h8 := hb8.trans (hd8.mono hb8.size)
            have hx8 : RowsAt w8.drew.heap.size w8.drew xa res := (hx7.below h8).mono h8.size
            have hr8 : RowsAt w8.drew.heap.size w8.drew (some ⟨g, off, none⟩) rs := (hr7.below h8).mono h8.size
            have b8 : Below w.heap.size w w8.drew := b7.trans (h8.mono b7.size)
            have d8 : Below w2.heap.size w2 w8.drew := d7.trans (h8.mono d7.size)
            have ht8 := ht.below b8 hz
            have s7 : Hid (w6.heap.size + 1 ≤ (w6.alloc (.cells #[.int .i64 2, .int .i64 u, .int .i64 0, .int .i64 0, .string ⟨#[99, 97, 98]⟩] 25)).heap.size) := by simp [Hid]
            have c8 : Below (w6.heap.size + 1) (w6.alloc (.cells #[.int .i64 2, .int .i64 u, .int .i64 0, .int .i64 0, .string ⟨#[99, 97, 98]⟩] 25)) w8.drew := h8.mono s7.out
            have s8 := Lib.hid (Nat.le_trans s7.out h8.size)
            obtain ⟨m0, m1, m2, m3, m4⟩ := HB7.out _ c8
            obtain ⟨k0, k1, k2, k3, k4⟩ := HB.out _ d8
            clear hx6 b6 ht6 hx7 hr7 b7 d7 ht7 z0 z1 z2 z3 z4 x0 x1 x2 x3 x4 hb8 h8 hd8
            go_wp2_with fail
            go_region_held3 (fun x : World => x.cell? ⟨w6.heap.size, 0, none⟩ = some (.int .i64 2) ∧ x.cell? ⟨w6.heap.size, 1, none⟩ = some (.int .i64 u) ∧ x.cell? ⟨w6.heap.size, 2, none⟩ = some (.int .i64 0) ∧ x.cell? ⟨w6.heap.size, 3, none⟩ = some (.int .i64 0) ∧ x.cell? ⟨w6.heap.size, 4, none⟩ = some (.string ⟨#[99, 97, 98]⟩) ∧ x.cell? ⟨w1.heap.size, 0, none⟩ = some (.int .i64 o.kind) ∧ x.cell? ⟨w1.heap.size, 1, none⟩ = some (.int .i64 o.id) ∧ x.cell? ⟨w1.heap.size, 2, none⟩ = some (.int .i64 o.up) ∧ x.cell? ⟨w1.heap.size, 3, none⟩ = some (.int .i64 o.at_) ∧ x.cell? ⟨w1.heap.size, 4, none⟩ = some (.string o.txt)) (first | exact ⟨m0, m1, m2, m3, m4, k0, k1, k2, k3, k4⟩ | exact ⟨n0, n1, n2, n3, n4, n5⟩ | exact ⟨p0, p1, p2, p3, p4, p5⟩ | exact ⟨r0, r1, r2, r3, r4, r5⟩ | exact ⟨s0, s1, s2, s3, s4, s5⟩) (first
              | (go_at_call 29; (with_reducible refine (HO.out _ hx8 ht8).mono ?_); rintro e w9 ⟨za, zc, rfl, own9, hzc, hb9⟩; have hz9 := (got_own own9).rows; have hr9 := (hr8.below hb9).mono hb9.size; have b9 := b8.trans (hb9.mono b8.size); have ht9 := ht.below b9 hz; have c9 := c8.trans (hb9.mono s8.out); have d9 := d8.trans (hb9.mono d8.size); obtain ⟨n0, n1, n2, n3, n4⟩ := HB7.out w9 c9; have n5 := HB.out _ d9)
              | (go_at_call 29; (with_reducible refine (HO2.out _ hr9 ht9).mono ?_); rintro e w10 ⟨va, vc, rfl, own10, hvc, hb10⟩; have hz10 := (hz9.below hb10).mono hb10.size; have hv10 := (got_own own10).rows; have b10 := b9.trans (hb10.mono b9.size); have ht10 := ht.below b10 hz; have c10 := c9.trans (hb10.mono (Nat.le_trans s8.out hb9.size)); have d10 := d9.trans (hb10.mono d9.size); obtain ⟨p0, p1, p2, p3, p4⟩ := HB7.out w10 c10; have p5 := HB.out _ d10)
              | (go_at_call 29; (with_reducible refine (HO3.out _ _ _ hv10 ht10).mono ?_); rintro e w11 ⟨ua, uc, rfl, own11, huc, hb11⟩; have hz11 := (hz10.below hb11).mono hb11.size; have hu11 := (got_own own11).rows; have b11 := b10.trans (hb11.mono b10.size); have c11 := c10.trans (hb11.mono (Nat.le_trans (Nat.le_trans s8.out hb9.size) hb10.size)); have d11 := d10.trans (hb11.mono d10.size); obtain ⟨r0, r1, r2, r3, r4⟩ := HB7.out w11 c11; have r5 := HB.out _ d11)
              | (go_at_call 31; refine (lpRows_same _ _ _ _ _ _ _ (Nat.le_refl _) hz11 hu11 hrl1).mono ?_; rintro e w12 ⟨rfl, hb12⟩; have b12 := b11.trans (hb12.mono b11.size); have c12 := c11.trans (hb12.mono (Nat.le_trans (Nat.le_trans (Nat.le_trans s8.out hb9.size) hb10.size) hb11.size)); have d12 := d11.trans (hb12.mono d11.size); obtain ⟨s0, s1, s2, s3, s4⟩ := HB7.out w12 c12; have s5 := HB.out _ d12))
            all_goals
              go_wp2
              go_ret
              exact ⟨rfl, b12⟩
  · exact fnDoTexts_long _ _ _ _ _ _ _ hlens
end Go.Proofs.YtlhlkbbjmbpgpaaDoor
