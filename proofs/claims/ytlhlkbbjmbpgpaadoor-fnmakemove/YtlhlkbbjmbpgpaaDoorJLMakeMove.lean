/-
  The walk of the law FnMakeMove out of the contracts. Conditions: the arguments read as bytes; the table 'creators' holds what its initialiser lays.
-/
import Derived.Test.YtlhlkbbjmbpgpaaDoorGI
import Derived.Test.YtlhlkbbjmbpgpaaDoorGH
import Derived.Test.YtlhlkbbjmbpgpaaDoorJLDoTwice
import Derived.Deep.RegionHeld3
namespace Go.Proofs.YtlhlkbbjmbpgpaaDoor
open Go.ChangeShapes Go.WideShapes Go.ChangeAt Go.RowKit Go.Joins

theorem opok1 {o : OpD} (h : opokB o = true) (hk : o.kind = 1) : madeB o.id = true ∧ textB o.txt = true := by
  unfold opokB at h
  rw [if_pos hk] at h
  simp only [Bool.and_eq_true] at h
  exact ⟨h.1.1, h.2⟩
theorem doT_makeMove {rs : List RowD} {o : OpD} (h1 : treeB rs = true) (h2 : opokB o = true) (hk : o.kind = 1) (hn : ¬ atN rs o.id < rs.length) (i : Nat) (hi : i < rs.length) : doT (doT rs o) ⟨3, o.id, (rat rs i).id, 0, ⟨#[]⟩⟩ = doT rs ⟨1, o.id, (rat rs i).id, 0, o.txt⟩ := by
  obtain ⟨m1, m2⟩ := opok1 h2 hk
  have hw : whoB (rat rs i).id = true := by
    unfold whoB
    rcases rok_cases ((treeP_of h1).rok i hi) with ⟨g, _⟩ | ⟨_, g, _⟩
    · rw [g]; rfl
    · rw [g]; simp
  have hp : opokB ⟨3, o.id, (rat rs i).id, 0, ⟨#[]⟩⟩ = true := by
    unfold opokB
    rw [if_neg (show ¬ (3 : Int) = 1 by decide), if_neg (show ¬ (3 : Int) = 2 by decide), if_pos (show (3 : Int) = 3 from rfl)]
    show ((((⟨#[]⟩ : ByteArray).toList == []) && madeB o.id) && spotB (rat rs i).id 0) = true
    have e : ((⟨#[]⟩ : ByteArray).toList == []) = true := by decide +kernel
    unfold spotB
    rw [e, m1, hw]; rfl
  have hq : opokB ⟨1, o.id, (rat rs i).id, 0, o.txt⟩ = true := by
    unfold opokB
    rw [if_pos (show (1 : Int) = 1 from rfl)]
    show (madeB o.id && spotB (rat rs i).id 0 && textB o.txt) = true
    unfold spotB
    rw [m1, m2, hw]; rfl
  have hnt : thereB rs o.id = false := by simp [thereB, hn]
  rw [doT_eq h1 h2, doT_eq (do_tree h1 h2) hp, doT_eq h1 hq]
  exact make_move h1 h2 hk hnt rfl rfl (there_iff.2 (by show atN rs (rat rs i).id < rs.length; rw [(treeP_of h1).at_self hi]; exact hi)) rfl rfl rfl rfl rfl
theorem fnMakeMove_long (a0 : Option Addr) (len0 cap0 : Nat) (a1 : Option Addr) (len1 cap1 : Nat) (w : World) (h : ¬ ((len0 : Int) ≤ 1048576 ∧ (len1 : Int) ≤ 1048576)) :
    Calls Tryd.prog 10 #[.slice a0 len0 cap0, .slice a1 len1 cap1] w fun e w' => e = .returned (.bool true) ∧ Below w.heap.size w w' := by
  by_cases h0 : (len0 : Int) ≤ 1048576
  · have h1 : ¬ (len1 : Int) ≤ 1048576 := fun g => h ⟨h0, g⟩
    clear h
    go_enter Tryd.func10, Tryd.ntmps10
    go_wp2
    go_ret
    exact ⟨rfl, Below.refl _ _⟩
  · clear h
    go_enter Tryd.func10, Tryd.ntmps10
    go_wp2
    go_ret
    exact ⟨rfl, Below.refl _ _⟩
set_option maxRecDepth 100000 in
set_option maxHeartbeats 4000000 in
theorem fnMakeMove_walk (w : World) (ht : Tab w) (a0 : Option Addr) (len0 cap0 : Nat) (b0 : Bytes w a0 len0 cap0) (a1 : Option Addr) (len1 cap1 : Nat) (_b1 : Bytes w a1 len1 cap1) :
    Calls Tryd.prog 10 #[.slice a0 len0 cap0, .slice a1 len1 cap1] w fun e w' => e = .returned (.bool true) ∧ Below w.heap.size w w' := by
  have hz := ht.pos
  by_cases hlens : (len0 : Int) ≤ 1048576 ∧ (len1 : Int) ≤ 1048576
  · obtain ⟨hl0, hl1⟩ := hlens
    go_enter Tryd.func10, Tryd.ntmps10
    go_wp2_with fail
    refine (drawOpDo_any _ _ _ _ b0).mono ?_
    rintro e w1 ⟨a, cap, rs, o, ho, rfl, hl, hb⟩
    have hlen := hl.len
    have hcap := hl.cap
    have hfit := Lib.hid hl.fit
    have hofit := Lib.hid ho.fit
    have hopS := Lib.hid ho
    have hal : Below w1.heap.size w1 (w1.alloc (.cells #[.int .i64 o.kind, .int .i64 o.id, .int .i64 o.up, .int .i64 o.at_, .string o.txt] 25)) := (Below.refl _ _).alloc (Nat.le_refl _) _
    have hb1 := hb.trans (hal.mono hb.size)
    have hr1 := (hl.rows.below hal).mono hal.size
    have ht1 := ht.below hb1 hz
    clear hl b0 hb _b1
    go_wp2_with fail
    refine (implOpDo_any _ _ _ _ _ _ (Nat.le_refl _) hr1 hfit.out hofit.out ht1).mono ?_
    rintro e w2 ⟨xa, xc, rfl, own2, hxc, hb2⟩
    have HB : Hid (∀ x, Below w2.heap.size w2 x → x.cell? ⟨w1.heap.size, 0, none⟩ = some (.int .i64 o.kind) ∧ x.cell? ⟨w1.heap.size, 1, none⟩ = some (.int .i64 o.id) ∧ x.cell? ⟨w1.heap.size, 2, none⟩ = some (.int .i64 o.up) ∧ x.cell? ⟨w1.heap.size, 3, none⟩ = some (.int .i64 o.at_) ∧ x.cell? ⟨w1.heap.size, 4, none⟩ = some (.string o.txt)) := fun x hx => ((OBox.new w1 o).below (hb2.trans (hx.mono hb2.size)) (OBox.new w1 o).lt).cells
    have hr2 := (hr1.below hb2).mono hb2.size
    have hx2 := (got_own own2).rows
    have HXC := Lib.hid (own_capm own2)
    have b2 := hb1.trans (hb2.mono hb1.size)
    have hrl : (doT rs o).length ≤ 1048576 := by have := doT_len rs o; omega
    have HT : Hid (treeB rs = true → opokB o = true → treeB (doT rs o) = true) := fun h1 h2 => doT_tree h1 h2
    clear hr1 own2 hb2 hal hb1 ht1
    have HS : Hid (∀ x, RowsAt x.heap.size x a rs → Calls Tryd.prog 32 #[.slice a rs.length cap, .agg #[.int .i64 o.kind, .int .i64 o.id, .int .i64 o.up, .int .i64 o.at_, .string o.txt]] x (RetOwn (doT rs o) x)) := fun x h => specOpDo_any _ _ _ rs o x (Nat.le_refl _) h hfit.out hofit.out hcap.1 hcap.2
    have HD : Hid (treeB rs = true → opokB o = true → o.kind = 1 → ¬ atN rs o.id < rs.length → ∀ i, i < rs.length → doT (doT rs o) ⟨3, o.id, (rat rs i).id, 0, ⟨#[]⟩⟩ = doT rs ⟨1, o.id, (rat rs i).id, 0, o.txt⟩) := fun h1 h2 h3 h4 i hi => doT_makeMove h1 h2 h3 h4 i hi
    generalize doT rs o = res at *
    obtain ⟨x0, x1, x2, x3, x4⟩ := HB.out w2 (Below.refl _ _)
    go_wp2_with fail
    refine (HS.out w2 hr2).mono ?_
    rintro e w3 ⟨ya, yc, rfl, own3, hyc, hb3⟩
    have hy3 := (got_own own3).rows
    have hx3 := (hx2.below hb3).mono hb3.size
    have hr3 := (hr2.below hb3).mono hb3.size
    have b3 := b2.trans (hb3.mono b2.size)
    have c3 := hb3
    clear own3 x0 x1 x2 x3 x4 hr2 hx2 b2 hb3
    go_wp2_with fail
    refine (lpRows_same _ _ _ _ _ _ _ (Nat.le_refl _) hx3 hy3 hrl).mono ?_
    rintro e w4 ⟨rfl, hb4⟩
    have hx4 := (hx3.below hb4).mono hb4.size
    have hr4 := (hr3.below hb4).mono hb4.size
    have b4 := b3.trans (hb4.mono b3.size)
    have c4 := c3.trans (hb4.mono c3.size)
    clear hx3 hr3 b3 c3 hb4 hy3
    go_wp2_with fail
    refine (specTreeOk_any _ _ _ _ _ (Nat.le_refl _) hr4 hfit.out).mono ?_
    rintro e w5 ⟨rfl, hb5⟩
    have hx5 := (hx4.below hb5).mono hb5.size
    have hr5 := (hr4.below hb5).mono hb5.size
    have b5 := b4.trans (hb5.mono b4.size)
    have c5 := c4.trans (hb5.mono c4.size)
    clear hx4 hr4 b4 c4 hb5
    obtain ⟨x0, x1, x2, x3, x4⟩ := HB.out w5 c5
    have HL : Hid (∀ x va vc, RowsAt x.heap.size x xa res → RowsAt x.heap.size x va res → Calls Tryd.prog 31 #[.slice xa res.length xc, .slice va res.length vc] x (RetBelow (.bool true) x)) := fun x va vc h1 h2 => lpRows_same _ _ _ _ _ _ _ (Nat.le_refl _) h1 h2 hrl
    cases hT : treeB rs
    · go_wp2_with fail
      refine (HS.out _ hr5).mono ?_
      rintro e wa ⟨za, zc, rfl, owna, hzc, hba⟩
      have hza := (got_own owna).rows
      have hxa := (hx5.below hba).mono hba.size
      have ba := b5.trans (hba.mono b5.size)
      clear owna x0 x1 x2 x3 x4 hr5 hx5 b5 hba
      go_wp2_with fail
      refine (HL.out _ _ _ hxa hza).mono ?_
      rintro e wb ⟨rfl, hbb⟩
      have bb := ba.trans (hbb.mono ba.size)
      go_wp2
      go_ret
      exact ⟨rfl, bb⟩
    · go_wp2_with fail
      refine (specOpOk_any o _ hofit.out).mono ?_
      rintro e w6 ⟨rfl, hb6⟩
      have hx6 := (hx5.below hb6).mono hb6.size
      have hr6 := (hr5.below hb6).mono hb6.size
      have b6 := b5.trans (hb6.mono b5.size)
      have c6 := c5.trans (hb6.mono c5.size)
      clear x0 x1 x2 x3 x4 hx5 hr5 b5 c5 hb6
      obtain ⟨x0, x1, x2, x3, x4⟩ := HB.out w6 c6
      cases hK : opokB o
      · go_wp2_with fail
        refine (HS.out _ hr6).mono ?_
        rintro e wa ⟨za, zc, rfl, owna, hzc, hba⟩
        have hza := (got_own owna).rows
        have hxa := (hx6.below hba).mono hba.size
        have ba := b6.trans (hba.mono b6.size)
        clear owna x0 x1 x2 x3 x4 hr6 hx6 b6 hba
        go_wp2_with fail
        refine (HL.out _ _ _ hxa hza).mono ?_
        rintro e wb ⟨rfl, hbb⟩
        have bb := ba.trans (hbb.mono ba.size)
        go_wp2
        go_ret
        exact ⟨rfl, bb⟩
      · have hR := Lib.hid (HT.out hT hK)
        have hfx := Lib.hid (tree_fit hR.out hrl)
        have ht6 := ht.below b6 hz
        by_cases hk : o.kind = 1
        · rw [hk] at x0
          have HA := Lib.hid (lpAt_any w6.heap.size a cap rs o.id w6 hr6 hfit.out)
          by_cases hat : atN rs o.id < rs.length
          · rw [atI_pos hat] at HA
            generalize atN rs o.id = q at *
            clear HD
            have HS' : Hid (∀ x, RowsAt x.heap.size x a rs → Calls Tryd.prog 32 #[.slice a rs.length cap, .agg #[.int .i64 1, .int .i64 o.id, .int .i64 o.up, .int .i64 o.at_, .string o.txt]] x (RetOwn res x)) := by
              intro x h
              have h3 := HS.out x h
              rwa [hk] at h3
            clear HS
            go_wp2_with fail
            refine HA.out.mono ?_
            rintro e w' ⟨rfl, rfl⟩
            go_wp2_with fail
            refine (HS'.out _ hr6).mono ?_
            rintro e wa ⟨za, zc, rfl, owna, hzc, hba⟩
            have hza := (got_own owna).rows
            have hxa := (hx6.below hba).mono hba.size
            have ba := b6.trans (hba.mono b6.size)
            clear owna x0 x1 x2 x3 x4 hr6 hx6 b6 hba
            go_wp2_with fail
            refine (HL.out _ _ _ hxa hza).mono ?_
            rintro e wb ⟨rfl, hbb⟩
            have bb := ba.trans (hbb.mono ba.size)
            go_wp2
            go_ret
            exact ⟨rfl, bb⟩
          · rw [atI_neg (by have := atN_le rs o.id; omega)] at HA
            have hl3 := (treeP_of hT).len
            have hi : len1 % rs.length < rs.length := Nat.mod_lt _ (by omega)
            have HQ := Lib.hid (HD.out hT hK hk hat (len1 % rs.length) hi)
            have hrem : ((len1 : Int) % (rs.length : Int)) = ((len1 % rs.length : Nat) : Int) := rfl
            have hiu := Lib.hid (rok_id ((treeP_of hT).rok _ hi))
            generalize hqq : len1 % rs.length = q at *
            obtain ⟨g, off, rfl, hg, e0, e1, e2⟩ := hr6.at_ hi
            obtain ⟨u, hu⟩ : ∃ u, (rat rs q).id = u := ⟨_, rfl⟩
            rw [hu] at e0 HQ hiu
            have i1 : (q : Int) < (rs.length : Int) := by omega
            have hu2 := hiu.out
            have hpf : Hid (OpFit ⟨3, o.id, u, 0, ⟨#[]⟩⟩) := by
              have hI := hofit.out.id
              exact ⟨hI, ⟨by dsimp only; omega, by dsimp only; omega⟩, ⟨by dsimp only; omega, by dsimp only; omega⟩, by show (0 : Nat) ≤ maxLen; unfold maxLen; omega⟩
            have hqf : Hid (OpFit ⟨1, o.id, u, 0, o.txt⟩) := by
              have hI := hofit.out.id
              have hx := hofit.out.txt
              exact ⟨hI, ⟨by dsimp only; omega, by dsimp only; omega⟩, ⟨by dsimp only; omega, by dsimp only; omega⟩, hx⟩
            have hrl2 : (doT rs ⟨1, o.id, u, 0, o.txt⟩).length ≤ 1048576 := by have := doT_len rs ⟨1, o.id, u, 0, o.txt⟩; omega
            have HO : Hid (∀ x, RowsAt x.heap.size x xa res → Tab x → Calls Tryd.prog 29 #[.slice xa res.length xc, .agg #[.int .i64 3, .int .i64 o.id, .int .i64 u, .int .i64 0, .string ⟨#[]⟩]] x (RetOwn (doT rs ⟨1, o.id, u, 0, o.txt⟩) x)) := by
              intro x h1 h2
              have h3 := implOpDo_any _ xa xc res ⟨3, o.id, u, 0, ⟨#[]⟩⟩ x (Nat.le_refl _) h1 hfx.out hpf.out h2
              rwa [HQ.out] at h3
            have HO2 : Hid (∀ x, RowsAt x.heap.size x (some ⟨g, off, none⟩) rs → Tab x → Calls Tryd.prog 29 #[.slice (some ⟨g, off, none⟩) rs.length cap, .agg #[.int .i64 1, .int .i64 o.id, .int .i64 u, .int .i64 0, .string o.txt]] x (RetOwn (doT rs ⟨1, o.id, u, 0, o.txt⟩) x)) := fun x h1 h2 => implOpDo_any _ (some ⟨g, off, none⟩) cap rs ⟨1, o.id, u, 0, o.txt⟩ x (Nat.le_refl _) h1 hfit.out hqf.out h2
            generalize doT rs ⟨1, o.id, u, 0, o.txt⟩ = r2 at *
            have hal7 : Below w6.heap.size w6 (w6.alloc (.cells #[.int .i64 1, .int .i64 o.id, .int .i64 u, .int .i64 0, .string o.txt] 25)) := (Below.refl _ _).alloc (Nat.le_refl _) _
            have hx7 : RowsAt (w6.alloc (.cells #[.int .i64 1, .int .i64 o.id, .int .i64 u, .int .i64 0, .string o.txt] 25)).drew.heap.size (w6.alloc (.cells #[.int .i64 1, .int .i64 o.id, .int .i64 u, .int .i64 0, .string o.txt] 25)).drew xa res := (hx6.below hal7.drew).mono hal7.drew.size
            have hr7 : RowsAt (w6.alloc (.cells #[.int .i64 1, .int .i64 o.id, .int .i64 u, .int .i64 0, .string o.txt] 25)).drew.heap.size (w6.alloc (.cells #[.int .i64 1, .int .i64 o.id, .int .i64 u, .int .i64 0, .string o.txt] 25)).drew (some ⟨g, off, none⟩) rs := (hr6.below hal7.drew).mono hal7.drew.size
            have b7 : Below w.heap.size w (w6.alloc (.cells #[.int .i64 1, .int .i64 o.id, .int .i64 u, .int .i64 0, .string o.txt] 25)).drew := b6.trans (hal7.drew.mono b6.size)
            have d7 : Below w2.heap.size w2 (w6.alloc (.cells #[.int .i64 1, .int .i64 o.id, .int .i64 u, .int .i64 0, .string o.txt] 25)).drew := c6.trans (hal7.drew.mono c6.size)
            have ht7 := ht.below b7 hz
            have HB7 : Hid (∀ x, Below (w6.heap.size + 1) (w6.alloc (.cells #[.int .i64 1, .int .i64 o.id, .int .i64 u, .int .i64 0, .string o.txt] 25)) x → x.cell? ⟨w6.heap.size, 0, none⟩ = some (.int .i64 1) ∧ x.cell? ⟨w6.heap.size, 1, none⟩ = some (.int .i64 o.id) ∧ x.cell? ⟨w6.heap.size, 2, none⟩ = some (.int .i64 u) ∧ x.cell? ⟨w6.heap.size, 3, none⟩ = some (.int .i64 0) ∧ x.cell? ⟨w6.heap.size, 4, none⟩ = some (.string o.txt)) := fun x hx => ((OBox.new w6 ⟨1, o.id, u, 0, o.txt⟩).below hx (Nat.lt_succ_self _)).cells
            have s7 : Hid (w6.heap.size + 1 ≤ (w6.alloc (.cells #[.int .i64 1, .int .i64 o.id, .int .i64 u, .int .i64 0, .string o.txt] 25)).drew.heap.size) := by simp [Hid]
            have hd7 : Below (w6.heap.size + 1) (w6.alloc (.cells #[.int .i64 1, .int .i64 o.id, .int .i64 u, .int .i64 0, .string o.txt] 25)) (w6.alloc (.cells #[.int .i64 1, .int .i64 o.id, .int .i64 u, .int .i64 0, .string o.txt] 25)).drew := (Below.refl _ _).drew
            obtain ⟨m0, m1, m2, m3, m4⟩ := HB7.out _ hd7
            have m5 := (HB.out _ d7).2.1
            clear HD HQ hiu hu2 hpf hqf hat hT HT HS HL hx6 b6 ht6
            go_wp2_with fail
            refine HA.out.mono ?_
            rintro e w' ⟨rfl, rfl⟩
            go_wp2_with fail
            go_region_held3 (fun x : World => x.cell? ⟨w6.heap.size, 0, none⟩ = some (.int .i64 1) ∧ x.cell? ⟨w6.heap.size, 1, none⟩ = some (.int .i64 o.id) ∧ x.cell? ⟨w6.heap.size, 2, none⟩ = some (.int .i64 u) ∧ x.cell? ⟨w6.heap.size, 3, none⟩ = some (.int .i64 0) ∧ x.cell? ⟨w6.heap.size, 4, none⟩ = some (.string o.txt) ∧ x.cell? ⟨w1.heap.size, 1, none⟩ = some (.int .i64 o.id)) (first | exact ⟨m0, m1, m2, m3, m4, m5⟩ | exact ⟨n0, n1, n2, n3, n4, n5⟩ | exact ⟨p0, p1, p2, p3, p4, p5⟩ | exact ⟨r0, r1, r2, r3, r4, r5⟩) (first
              | (go_at_call 29; (with_reducible refine (HO.out _ hx7 ht7).mono ?_); rintro e w8 ⟨za, zc, rfl, own8, hzc, hb8⟩; have hz8 := (got_own own8).rows; have hr8 := (hr7.below hb8).mono hb8.size; have b8 := b7.trans (hb8.mono b7.size); have ht8 := ht.below b8 hz; have c8 := hd7.trans (hb8.mono s7.out); have d8 := d7.trans (hb8.mono d7.size); obtain ⟨n0, n1, n2, n3, n4⟩ := HB7.out w8 c8; have n5 := (HB.out _ d8).2.1)
              | (go_at_call 29; (with_reducible refine (HO2.out _ hr8 ht8).mono ?_); rintro e w9 ⟨va, vc, rfl, own9, hvc, hb9⟩; have hz9 := (hz8.below hb9).mono hb9.size; have hv9 := (got_own own9).rows; have b9 := b8.trans (hb9.mono b8.size); have c9 := c8.trans (hb9.mono (Nat.le_trans s7.out hb8.size)); have d9 := d8.trans (hb9.mono d8.size); obtain ⟨p0, p1, p2, p3, p4⟩ := HB7.out w9 c9; have p5 := (HB.out _ d9).2.1)
              | (go_at_call 31; refine (lpRows_same _ _ _ _ _ _ _ (Nat.le_refl _) hz9 hv9 hrl2).mono ?_; rintro e w10 ⟨rfl, hb10⟩; have b10 := b9.trans (hb10.mono b9.size); have c10 := c9.trans (hb10.mono (Nat.le_trans (Nat.le_trans s7.out hb8.size) hb9.size)); have d10 := d9.trans (hb10.mono d9.size); obtain ⟨r0, r1, r2, r3, r4⟩ := HB7.out w10 c10; have r5 := (HB.out _ d10).2.1))
            all_goals
              go_wp2
              go_ret
              exact ⟨rfl, b10⟩
        · generalize hkd : o.kind = kd at *
          go_wp2_with fail
          refine (HS.out _ hr6).mono ?_
          rintro e wa ⟨za, zc, rfl, owna, hzc, hba⟩
          have hza := (got_own owna).rows
          have hxa := (hx6.below hba).mono hba.size
          have ba := b6.trans (hba.mono b6.size)
          clear owna x0 x1 x2 x3 x4 hr6 hx6 b6 hba
          go_wp2_with fail
          refine (HL.out _ _ _ hxa hza).mono ?_
          rintro e wb ⟨rfl, hbb⟩
          have bb := ba.trans (hbb.mono ba.size)
          go_wp2
          go_ret
          exact ⟨rfl, bb⟩
  · exact fnMakeMove_long _ _ _ _ _ _ _ hlens
end Go.Proofs.YtlhlkbbjmbpgpaaDoor
