/-
  Contract of the model's l3Put: it puts rows under a row, behind one. Conditions: as the theorem says.
-/
import Derived.Test.YtefelnodahcolaaDoorTOp
import Derived.Test.YtefelnodahcolaaDoorRowsArg
import Derived.Test.YtefelnodahcolaaDoorToRows
namespace Go.Proofs.YtefelnodahcolaaDoor
open Go.ChangeShapes Go.WideShapes Go.ChangeAt Go.RowKit Go.Joins

theorem placeN_bd {rs : List RowD} {up at' : Int} (h1 : atN rs up < rs.length) (h2 : 0 < at' → atN rs at' < rs.length) : 1 ≤ placeN rs up at' ∧ placeN rs up at' ≤ rs.length := by
  unfold placeN
  split
  · rename_i h
    have := en_spec (D := rdep rs) (m := rs.length) (h2 h)
    have e : enR rs (atN rs at') = en (rdep rs) rs.length (atN rs at') := rfl
    omega
  · omega
def midR (rs rows : List RowD) (P k : Nat) (dd : Int) : List RowD := rs.take P ++ (rows.take k).map (shiftR dd)
theorem midR_zero (rs rows : List RowD) (P : Nat) (dd : Int) : midR rs rows P 0 dd = rs.take P := by simp [midR]
theorem snoc_rows (rs rows : List RowD) (P k : Nat) (dd : Int) (h : k < rows.length) :
    cellsL (midR rs rows P k dd) ++ cellsL [shiftR dd (rat rows k)] = cellsL (midR rs rows P (k + 1) dd) := by
  unfold midR
  rw [← cellsL_append, List.append_assoc]
  congr 2
  rw [List.take_succ_eq_append_getElem h, List.map_append]
  congr 1
  simp [rat, h]
theorem fin_rows (rs rows : List RowD) (P : Nat) (dd : Int) (_h : P ≤ rs.length) :
    cellsL (midR rs rows P rows.length dd) ++ cellsL ((rs.drop P).take (rs.length - P)) = cellsL (rs.take P ++ rows.map (shiftR dd) ++ rs.drop P) := by
  unfold midR
  rw [← cellsL_append, List.take_length (l := rows), List.take_of_length_le (l := rs.drop P) (by simp)]
theorem cells_new3 (w : World) (v0 v1 v2 : Value) (t : TypeId) (g : Nat) (hg : g = w.heap.size) : ∀ j u, [v0, v1, v2][j]? = some u → (w.alloc (.cells #[v0, v1, v2] t)).cell? ((⟨g, 0, none⟩ : Addr).add j) = some u := by
  subst hg
  intro j u hj
  match j, hj with
  | 0, hj => simp at hj; subst hj; simp [Addr.add, go_sem]
  | 1, hj => simp at hj; subst hj; simp [Addr.add, go_sem]
  | 2, hj => simp at hj; subst hj; simp [Addr.add, go_sem]
set_option maxRecDepth 100000 in
set_option maxHeartbeats 1000000 in
theorem l3Put_any (B : Nat) (a a' : Option Addr) (cap cap' : Nat) (rs rows : List RowD) (up at' : Int) (w : World) (hB : B ≤ w.heap.size) (h : RowsAt B w a rs) (h' : RowsAt B w a' rows) (hf : Fit rs) (hc : rs.length ≤ cap) (hcm : cap ≤ maxLen) (hs : SmallDep rs) (hs' : SmallDep rows)
    (hup : atN rs up < rs.length) (hat : 0 < at' → atN rs at' < rs.length) (hr : 0 < rows.length) (hl : rs.length + rows.length ≤ 1048576) :
    Calls Tryd.prog 59 #[.slice a rs.length cap, .slice a' rows.length cap', .int .i64 up, .int .i64 at'] w (RetOwn (putR rs rows up at') w) := by
  unfold maxLen at hcm
  obtain ⟨i0, hi, hz0, hz1, hz2⟩ := info_parts infoRow
  obtain ⟨p1, p2⟩ := placeN_bd hup hat
  obtain ⟨b, off, rfl, hbB, c0, c1, c2⟩ := h.at_ hup
  obtain ⟨b', off', rfl, hbB', d0, d1, d2⟩ := h'.at_ hr
  rw [Nat.zero_mul, Nat.add_zero] at d0 d1 d2
  obtain ⟨s1, s2⟩ := hs _ hup
  obtain ⟨s3, s4⟩ := hs' _ hr
  have H1 := Lib.hid (atI_pos hup)
  have HP : Hid (placeN rs up at' = if 0 < at' then enR rs (atN rs at') else atN rs up + 1) := rfl
  have HDp : Hid (deepI' rs rows up = (rat rs (atN rs up)).dep + 1 - (rat rows 0).dep) := rfl
  have HPut : Hid (putR rs rows up at' = rs.take (placeN rs up at') ++ rows.map (shiftR (deepI' rs rows up)) ++ rs.drop (placeN rs up at')) := rfl
  generalize putR rs rows up at' = res at *
  generalize placeN rs up at' = P at *
  generalize deepI' rs rows up = dd at *
  have dd1 : -2000001 ≤ dd ∧ dd ≤ 2000001 := by have := HDp.out; omega
  obtain ⟨dd1, dd2⟩ := dd1
  have i1 : ((atN rs up : Nat) : Int) < (rs.length : Int) := by omega
  have i2 : (0 : Int) < (rows.length : Int) := by omega
  have e1 : IntKind.i64.wrap ((rat rs (atN rs up)).dep + 1) = (rat rs (atN rs up)).dep + 1 := IntWalk.i64_in _ (by omega)
  have e2 : IntKind.i64.wrap ((rat rs (atN rs up)).dep + 1 - (rat rows 0).dep) = (rat rs (atN rs up)).dep + 1 - (rat rows 0).dep := IntWalk.i64_in _ (by omega)
  by_cases ha : 0 < at'
  · have hat2 := hat ha
    have H2 := Lib.hid (atI_pos hat2)
    have HP' : Hid (P = enR rs (atN rs at')) := HP.out.trans (if_pos ha)
    go_enter Tryd.func59, Tryd.ntmps59
    go_wp2_with fail
    refine (l2At_any B _ _ _ _ _ h hf).mono ?_
    rintro e w' ⟨rfl, rfl⟩
    rw [H1.out]
    generalize atN rs up = x at *
    go_wp2
    go_quiet (fail)
    clear e1 e2
    go_wp2_with fail
    refine (l2At_any B _ _ _ _ (w.drewN nq) (h.below (below_drewN nq (Below.refl _ _))) hf).mono ?_
    rintro e w' ⟨rfl, rfl⟩
    rw [H2.out]
    go_wp2_with fail
    refine (l2End_any B _ _ _ _ (w.drewN nq) hB (h.below (below_drewN nq (Below.refl _ _))) hf hat2).mono ?_
    rintro e W ⟨rfl, hbW0⟩
    rw [← HP'.out]
    rw [← HDp.out]
    have hWb : Below w.heap.size w W := (below_drewN nq (Below.refl _ w)).trans hbW0
    have HR := h.below (hWb.mono hB)
    have HR' := h'.below (hWb.mono hB)
    have hbW : b < W.heap.size := by have := hWb.size; omega
    have hown0 := own_empty3 W 46
    have hnews0 := (RowsAt.news (s := 0) (n := P) HR (by omega))
    rw [Nat.zero_mul, Nat.add_zero, List.drop_zero] at hnews0
    go_wp2_with (at_builtin; refine wpList_append_own _ rfl _ _ 28 rfl W.heap.size 46 i0 (.agg #[.int .i64 0, .int .i64 0, .string ⟨#[]⟩]) 3 32 Tryd.underlying28 hi hz0 hz1 hz2 rfl (by decide) _ _ _ rfl hown0 ⟨b, off, none⟩ P cap (cellsL (rs.take P)) rfl ?c0 ?c1 ?c2 ?c3 ?c4 ?c5 ?_)
    case c0 => rw [cellsL_len]; simp; omega
    case c1 => intro j u hu; rw [World.cell?_alloc_lt _ _ _ (by rw [addr_add]; exact hbW)]; exact hnews0 j u hu
    case c2 => exact cellsL_plain _
    case c3 => unfold maxLen; omega
    case c4 => omega
    case c5 => simp
    intro v1 w1 own1 grow1 _
    have hb1 : Below W.heap.size W w1 := ((Below.refl _ W).alloc (Nat.le_refl _) (.cells #[] 46)).grown grow1 (by simp) (own_block hown0)
    have hw1 : Below w.heap.size w w1 := hWb.trans (hb1.mono hWb.size)
    obtain ⟨va, vc, rfl, _⟩ := own_slice own1
    clear grow1 hown0 hnews0
    go_wp2_with fail
    go_loopw [12, 13] (fun v t wr => ∃ k : Nat, k ≤ rows.length ∧ t = .int .i64 k ∧ wr.ownsRow W.heap.size 46 3 v (P + k) (cellsL (midR rs rows P k dd)) ∧ Below W.heap.size W wr) (fun _ t _ => rows.length - (intOf t).toNat)
    case atStart => exact ⟨0, Nat.zero_le _, rfl, by rw [midR_zero]; exact own1, hb1⟩
    case round =>
      obtain ⟨k, hk, rfl, own, hbr⟩ := hrel
      obtain ⟨sa, sc, rfl, hsc⟩ := own_slice own
      have hrr := HR'.below (hbr.mono (Nat.le_trans hB hWb.size))
      by_cases hlt : k < rows.length
      · obtain ⟨_, _, e3, _, r0, r1, r2⟩ := hrr.at_ hlt
        cases e3
        have j1 : (k : Int) < (rows.length : Int) := by omega
        obtain ⟨t1, t2⟩ := hs' _ hlt
        have hst := snoc_rows rs rows P k dd hlt
        have HST := Lib.hid hst
        clear hst
        go_wp2_with (at_builtin; refine wpList_append_own _ rfl _ _ 28 rfl W.heap.size 46 i0 (.agg #[.int .i64 0, .int .i64 0, .string ⟨#[]⟩]) 3 32 Tryd.underlying28 hi hz0 hz1 hz2 rfl (by decide) _ _ _ rfl ((own.alloc _).alloc _) ⟨wr.heap.size + 1, 0, none⟩ 1 1 (cellsL [shiftR dd (rat rows k)]) rfl ?c0 ?c1 ?c2 ?c3 ?c4 ?c5 ?_)
        case c0 => rfl
        case c1 => exact cells_new3 (wr.alloc _) _ _ _ _ _ (by simp)
        case c2 => exact cellsL_plain _
        case c3 => unfold maxLen; omega
        case c4 => omega
        case c5 => have := hbr.size; simp; omega
        intro v2 w2 own2 grow2 _
        have hb2 : Below W.heap.size W w2 := ((hbr.alloc hbr.size (.cells #[.int .i64 (rat rows k).id, .int .i64 ((rat rows k).dep + dd), .string (rat rows k).txt] 46)).alloc (by have := hbr.size; simp; omega) (.cells #[.int .i64 (rat rows k).id, .int .i64 ((rat rows k).dep + dd), .string (rat rows k).txt] 46)).grown grow2 (by have := hbr.size; simp; omega) (own_block own)
        obtain ⟨va2, vc2, rfl, _⟩ := own_slice own2
        rw [HST.out] at own2
        clear grow2 own
        go_wp2
        go_roundw
        case rel => exact ⟨k + 1, by omega, by go_num, own2, hb2⟩
        case measure => simp [intOf]; omega
      · obtain rfl : k = rows.length := by omega
        have HRr := HR.below (hbr.mono (Nat.le_trans hB hWb.size))
        have hw2 : Below w.heap.size w wr := hWb.trans (hbr.mono hWb.size)
        have hbr' : b < wr.heap.size := by have := hbr.size; omega
        have ip : (P : Int) ≤ (rs.length : Int) := by omega
        have ip2 : (P : Int) ≤ (cap : Int) := by omega
        have hfin := fin_rows rs rows P dd p2
        rw [← HPut.out] at hfin
        have HFIN := Lib.hid hfin
        have hlr : res.length = P + rows.length + (rs.length - P) := by rw [HPut.out]; simp; omega
        have HLR := Lib.hid hlr
        clear hfin hlr
        by_cases hcp : cap = P
        · subst hcp
          have hz : rs.length - cap = 0 := by omega
          have hfin2 : cellsL (midR rs rows cap rows.length dd) = cellsL res := by
            have := HFIN.out
            rw [hz, List.take_zero] at this
            simpa [cellsL] using this
          have hlr2 : res.length = cap + rows.length := by have := HLR.out; omega
          have HF2 := Lib.hid hfin2
          have HL2 := Lib.hid hlr2
          clear hfin2 hlr2 hz
          go_wp2_with (at_builtin; refine wpList_append_own _ rfl _ _ 28 rfl W.heap.size 46 i0 (.agg #[.int .i64 0, .int .i64 0, .string ⟨#[]⟩]) 3 32 Tryd.underlying28 hi hz0 hz1 hz2 rfl (by decide) _ _ _ rfl own ⟨b, off, none⟩ 0 _ [] rfl ?c0 ?c1 ?c2 ?c3 ?c4 ?c5 ?_)
          case c0 => rfl
          case c1 => intro j u hu; simp at hu
          case c2 => intro u hu; simp at hu
          case c3 => unfold maxLen; omega
          case c4 => omega
          case c5 => exact hbr.size
          intro v3 w3 own3 grow3 _
          have hb3 : Below W.heap.size W w3 := hbr.grown grow3 hbr.size (own_block own)
          obtain ⟨va3, vc3, rfl, hvc3⟩ := own_slice own3
          have own4 : w3.ownsRow W.heap.size 46 3 (.slice va3 (cap + rows.length) vc3) (cap + rows.length) (cellsL res) := by rw [← HF2.out]; simpa using own3
          go_wp2
          go_ret
          rw [← HL2.out] at own4
          refine ⟨va3, vc3, by rw [HL2.out]; rfl, own_mono own4 hWb.size, by rw [HL2.out]; simpa using hvc3, hWb.trans (hb3.mono hWb.size)⟩
        · go_wp2_with (at_builtin; refine wpList_append_own _ rfl _ _ 28 rfl W.heap.size 46 i0 (.agg #[.int .i64 0, .int .i64 0, .string ⟨#[]⟩]) 3 32 Tryd.underlying28 hi hz0 hz1 hz2 rfl (by decide) _ _ _ rfl own ⟨b, off + P * 3, none⟩ (rs.length - P) _ (cellsL ((rs.drop P).take (rs.length - P))) rfl ?c0 ?c1 ?c2 ?c3 ?c4 ?c5 ?_)
          case c0 => rw [cellsL_len]; simp
          case c1 => exact RowsAt.news HRr (by omega)
          case c2 => exact cellsL_plain _
          case c3 => unfold maxLen; omega
          case c4 => omega
          case c5 => exact hbr.size
          intro v3 w3 own3 grow3 _
          have hb3 : Below W.heap.size W w3 := hbr.grown grow3 hbr.size (own_block own)
          obtain ⟨va3, vc3, rfl, hvc3⟩ := own_slice own3
          rw [HFIN.out] at own3
          go_wp2
          go_ret
          rw [← HLR.out] at own3 hvc3
          refine ⟨va3, vc3, by rw [HLR.out]; rfl, own_mono own3 hWb.size, hvc3, hWb.trans (hb3.mono hWb.size)⟩
  · have HP' : Hid (P = atN rs up + 1) := HP.out.trans (if_neg ha)
    have ha' : at' ≤ 0 := by omega
    go_enter Tryd.func59, Tryd.ntmps59
    go_wp2_with fail
    refine (l2At_any B _ _ _ _ _ h hf).mono ?_
    rintro e w' ⟨rfl, rfl⟩
    rw [H1.out]
    generalize atN rs up = x at *
    obtain rfl : P = x + 1 := HP'.out
    go_wp2
    go_quiet (fail)
    clear e1 e2
    rw [← HDp.out]
    have hWb : Below w.heap.size w (w.drewN nq) := below_drewN nq (Below.refl _ w)
    have HR := h.below (hWb.mono hB)
    have HR' := h'.below (hWb.mono hB)
    have hbW : b < (w.drewN nq).heap.size := by have := hWb.size; omega
    generalize w.drewN nq = W at *
    have hown0 := own_empty3 W 46
    have hnews0 := (RowsAt.news (s := 0) (n := (x + 1)) HR (by omega))
    rw [Nat.zero_mul, Nat.add_zero, List.drop_zero] at hnews0
    go_wp2_with (at_builtin; refine wpList_append_own _ rfl _ _ 28 rfl W.heap.size 46 i0 (.agg #[.int .i64 0, .int .i64 0, .string ⟨#[]⟩]) 3 32 Tryd.underlying28 hi hz0 hz1 hz2 rfl (by decide) _ _ _ rfl hown0 ⟨b, off, none⟩ (x + 1) cap (cellsL (rs.take (x + 1))) rfl ?c0 ?c1 ?c2 ?c3 ?c4 ?c5 ?_)
    case c0 => rw [cellsL_len]; simp; omega
    case c1 => intro j u hu; rw [World.cell?_alloc_lt _ _ _ (by rw [addr_add]; exact hbW)]; exact hnews0 j u hu
    case c2 => exact cellsL_plain _
    case c3 => unfold maxLen; omega
    case c4 => omega
    case c5 => simp
    intro v1 w1 own1 grow1 _
    have hb1 : Below W.heap.size W w1 := ((Below.refl _ W).alloc (Nat.le_refl _) (.cells #[] 46)).grown grow1 (by simp) (own_block hown0)
    have hw1 : Below w.heap.size w w1 := hWb.trans (hb1.mono hWb.size)
    obtain ⟨va, vc, rfl, _⟩ := own_slice own1
    clear grow1 hown0 hnews0
    go_wp2_with fail
    go_loopw [12, 13] (fun v t wr => ∃ k : Nat, k ≤ rows.length ∧ t = .int .i64 k ∧ wr.ownsRow W.heap.size 46 3 v ((x + 1) + k) (cellsL (midR rs rows (x + 1) k dd)) ∧ Below W.heap.size W wr) (fun _ t _ => rows.length - (intOf t).toNat)
    case atStart => exact ⟨0, Nat.zero_le _, rfl, by rw [midR_zero]; exact own1, hb1⟩
    case round =>
      obtain ⟨k, hk, rfl, own, hbr⟩ := hrel
      obtain ⟨sa, sc, rfl, hsc⟩ := own_slice own
      have hrr := HR'.below (hbr.mono (Nat.le_trans hB hWb.size))
      by_cases hlt : k < rows.length
      · obtain ⟨_, _, e3, _, r0, r1, r2⟩ := hrr.at_ hlt
        cases e3
        have j1 : (k : Int) < (rows.length : Int) := by omega
        obtain ⟨t1, t2⟩ := hs' _ hlt
        have hst := snoc_rows rs rows (x + 1) k dd hlt
        have HST := Lib.hid hst
        clear hst
        go_wp2_with (at_builtin; refine wpList_append_own _ rfl _ _ 28 rfl W.heap.size 46 i0 (.agg #[.int .i64 0, .int .i64 0, .string ⟨#[]⟩]) 3 32 Tryd.underlying28 hi hz0 hz1 hz2 rfl (by decide) _ _ _ rfl ((own.alloc _).alloc _) ⟨wr.heap.size + 1, 0, none⟩ 1 1 (cellsL [shiftR dd (rat rows k)]) rfl ?c0 ?c1 ?c2 ?c3 ?c4 ?c5 ?_)
        case c0 => rfl
        case c1 => exact cells_new3 (wr.alloc _) _ _ _ _ _ (by simp)
        case c2 => exact cellsL_plain _
        case c3 => unfold maxLen; omega
        case c4 => omega
        case c5 => have := hbr.size; simp; omega
        intro v2 w2 own2 grow2 _
        have hb2 : Below W.heap.size W w2 := ((hbr.alloc hbr.size (.cells #[.int .i64 (rat rows k).id, .int .i64 ((rat rows k).dep + dd), .string (rat rows k).txt] 46)).alloc (by have := hbr.size; simp; omega) (.cells #[.int .i64 (rat rows k).id, .int .i64 ((rat rows k).dep + dd), .string (rat rows k).txt] 46)).grown grow2 (by have := hbr.size; simp; omega) (own_block own)
        obtain ⟨va2, vc2, rfl, _⟩ := own_slice own2
        rw [HST.out] at own2
        clear grow2 own
        go_wp2
        go_roundw
        case rel => exact ⟨k + 1, by omega, by go_num, own2, hb2⟩
        case measure => simp [intOf]; omega
      · obtain rfl : k = rows.length := by omega
        have HRr := HR.below (hbr.mono (Nat.le_trans hB hWb.size))
        have hw2 : Below w.heap.size w wr := hWb.trans (hbr.mono hWb.size)
        have hbr' : b < wr.heap.size := by have := hbr.size; omega
        have ip : ((x + 1) : Int) ≤ (rs.length : Int) := by omega
        have ip2 : ((x + 1) : Int) ≤ (cap : Int) := by omega
        have hfin := fin_rows rs rows (x + 1) dd p2
        rw [← HPut.out] at hfin
        have HFIN := Lib.hid hfin
        have hlr : res.length = (x + 1) + rows.length + (rs.length - (x + 1)) := by rw [HPut.out]; simp; omega
        have HLR := Lib.hid hlr
        clear hfin hlr
        by_cases hcp : cap = (x + 1)
        · subst hcp
          have hz : rs.length - (x + 1) = 0 := by omega
          have hfin2 : cellsL (midR rs rows (x + 1) rows.length dd) = cellsL res := by
            have := HFIN.out
            rw [hz, List.take_zero] at this
            simpa [cellsL] using this
          have hlr2 : res.length = (x + 1) + rows.length := by have := HLR.out; omega
          have HF2 := Lib.hid hfin2
          have HL2 := Lib.hid hlr2
          clear hfin2 hlr2 hz
          go_wp2_with (at_builtin; refine wpList_append_own _ rfl _ _ 28 rfl W.heap.size 46 i0 (.agg #[.int .i64 0, .int .i64 0, .string ⟨#[]⟩]) 3 32 Tryd.underlying28 hi hz0 hz1 hz2 rfl (by decide) _ _ _ rfl own ⟨b, off, none⟩ 0 _ [] rfl ?c0 ?c1 ?c2 ?c3 ?c4 ?c5 ?_)
          case c0 => rfl
          case c1 => intro j u hu; simp at hu
          case c2 => intro u hu; simp at hu
          case c3 => unfold maxLen; omega
          case c4 => omega
          case c5 => exact hbr.size
          intro v3 w3 own3 grow3 _
          have hb3 : Below W.heap.size W w3 := hbr.grown grow3 hbr.size (own_block own)
          obtain ⟨va3, vc3, rfl, hvc3⟩ := own_slice own3
          have own4 : w3.ownsRow W.heap.size 46 3 (.slice va3 ((x + 1) + rows.length) vc3) ((x + 1) + rows.length) (cellsL res) := by rw [← HF2.out]; simpa using own3
          go_wp2
          go_ret
          rw [← HL2.out] at own4
          refine ⟨va3, vc3, by rw [HL2.out]; rfl, own_mono own4 hWb.size, by rw [HL2.out]; simpa using hvc3, hWb.trans (hb3.mono hWb.size)⟩
        · go_wp2_with (at_builtin; refine wpList_append_own _ rfl _ _ 28 rfl W.heap.size 46 i0 (.agg #[.int .i64 0, .int .i64 0, .string ⟨#[]⟩]) 3 32 Tryd.underlying28 hi hz0 hz1 hz2 rfl (by decide) _ _ _ rfl own ⟨b, off + (x + 1) * 3, none⟩ (rs.length - (x + 1)) _ (cellsL ((rs.drop (x + 1)).take (rs.length - (x + 1)))) rfl ?c0 ?c1 ?c2 ?c3 ?c4 ?c5 ?_)
          case c0 => rw [cellsL_len]; simp
          case c1 => exact RowsAt.news HRr (by omega)
          case c2 => exact cellsL_plain _
          case c3 => unfold maxLen; omega
          case c4 => omega
          case c5 => exact hbr.size
          intro v3 w3 own3 grow3 _
          have hb3 : Below W.heap.size W w3 := hbr.grown grow3 hbr.size (own_block own)
          obtain ⟨va3, vc3, rfl, hvc3⟩ := own_slice own3
          rw [HFIN.out] at own3
          go_wp2
          go_ret
          rw [← HLR.out] at own3 hvc3
          refine ⟨va3, vc3, by rw [HLR.out]; rfl, own_mono own3 hWb.size, hvc3, hWb.trans (hb3.mono hWb.size)⟩
end Go.Proofs.YtefelnodahcolaaDoor
