/-
  The walk of the law FnExactClientDo out of the contracts. Conditions: the arguments read as a client and a change; the table 'creators' holds what its initialiser lays.
-/
import Derived.Test.YtogafpfgdonlmaaDoorJLClientOk
import Derived.Test.YtogafpfgdonlmaaDoorJCliMark
import Derived.Test.YtogafpfgdonlmaaDoorJCliS4
import Derived.Test.YtogafpfgdonlmaaDoorJCliI2
import Derived.Test.YtogafpfgdonlmaaDoorJLooseX
namespace Go.Proofs.YtogafpfgdonlmaaDoor
open Go.ChangeShapes Go.WideShapes Go.ChangeAt Go.RowKit Go.Joins Go.Deep


theorem Bx.op5c {w : World} {B : Nat} {t : TypeId} {v0 v1 v2 v3 v4 : Value} (h : Bx w B t #[v0, v1, v2, v3, v4]) : w.cell? ⟨B, 0, none⟩ = some v0 ∧ w.cell? ⟨B, 1, none⟩ = some v1 ∧ w.cell? ⟨B, 2, none⟩ = some v2 ∧ w.cell? ⟨B, 3, none⟩ = some v3 ∧ w.cell? ⟨B, 4, none⟩ = some v4 := ⟨h.cell 0 rfl, h.cell 1 rfl, h.cell 2 rfl, h.cell 3 rfl, h.cell 4 rfl⟩
/-- Both slices of a client that toClient made. -/
def OwnP (c : CliD) (g h : Nat) (w : World) : Prop := OwnC w g (c.base.length * 3) c.base ∧ OwnEC w h (c.wait.length * 7) c.wait
theorem OwnP.below {c : CliD} {g h : Nat} {w w' : World} (q : OwnP c g h w) (hb : Below w.heap.size w w') : OwnP c g h w' := ⟨q.1.below hb q.1.lt, q.2.below hb q.2.lt⟩
theorem CliGot.baseLt {base r : Nat} {w : World} {c : CliD} {ba wa : Option Addr} {bc wc : Nat} (_h : CliGot base w c ba bc wa wc) (hr : r < base) : r < base := hr
theorem CliGot.givenN {base r : Nat} {w' : World} {c : CliD} {ba wa : Option Addr} {bc wc : Nat} (h : CliGot base w' c ba bc wa wc) (hr : r < base) (v0 v1 v2 v3 v4 v5 : Value) : CliGot base ((((((w'.setCell ⟨r, 0, none⟩ v0).setCell ⟨r, 1, none⟩ v1).setCell ⟨r, 2, none⟩ v2).setCell ⟨r, 3, none⟩ v3).setCell ⟨r, 4, none⟩ v4).setCell ⟨r, 5, none⟩ v5) c ba bc wa wc :=
  ⟨(((((h.rows.putN hr v0).putN hr v1).putN hr v2).putN hr v3).putN hr v4).putN hr v5, (((((h.ents.putN hr v0).putN hr v1).putN hr v2).putN hr v3).putN hr v4).putN hr v5, h.bl, h.bm, h.wl, h.wm⟩
theorem cliDo_len {c : CliD} {o : OpD} (hl : c.base.length + c.wait.length ≤ 1048576) : (cliDo c o).base.length + (cliDo c o).wait.length ≤ 1048576 := by
  cases h : cliB c
  · rw [(do_no h).1]; exact Nat.zero_le _
  · obtain ⟨_, _, h3, _, h5, _⟩ := head_iff.1 (cli_iff.1 h).1
    have := tree_len h3
    cases h2 : doOk c o
    · rw [(cdo_same h h2).1]; exact hl
    · rw [(do_is h h2).1]; simp only [List.length_append, List.length_singleton]
      have := (head_iff.1 (cli_iff.1 h).1).2.2.2.1
      omega
set_option maxRecDepth 100000 in
set_option maxHeartbeats 16000000 in
theorem fnExactClientDo_walk (w : World) (ht : Tab w) (c : CliD) (ba wa : Option Addr) (bcp wcp : Nat) (h : CliAt w.heap.size w c ba bcp wa wcp) (hf : CliFitW c) (o : OpD) (ho : OpFit o) :
    Calls Tryd.prog 3 #[.agg #[.int .i64 c.who, .int .i64 c.seen, .slice ba c.base.length bcp, .slice wa c.wait.length wcp, .int .i64 c.done, .int .i64 c.made], .agg #[.int .i64 o.kind, .int .i64 o.id, .int .i64 o.up, .int .i64 o.at_, .string o.txt]] w fun e w' => e = .returned (.bool true) ∧ Below w.heap.size w w' := by
  have hz := ht.pos
  have al : Below w.heap.size w ((w.alloc (.cells #[.int .i64 c.who, .int .i64 c.seen, .slice ba c.base.length bcp, .slice wa c.wait.length wcp, .int .i64 c.done, .int .i64 c.made] 25)).alloc (.cells #[.int .i64 o.kind, .int .i64 o.id, .int .i64 o.up, .int .i64 o.at_, .string o.txt] 27)) := ((Below.refl _ _).alloc (Nat.le_refl _) _).alloc (by simp) _
  have A0 := (Bx.new w 25 #[.int .i64 c.who, .int .i64 c.seen, .slice ba c.base.length bcp, .slice wa c.wait.length wcp, .int .i64 c.done, .int .i64 c.made]).alloc (.cells #[.int .i64 o.kind, .int .i64 o.id, .int .i64 o.up, .int .i64 o.at_, .string o.txt] 27)
  have K0 := Bx.new (w.alloc (.cells #[.int .i64 c.who, .int .i64 c.seen, .slice ba c.base.length bcp, .slice wa c.wait.length wcp, .int .i64 c.done, .int .i64 c.made] 25)) 27 #[.int .i64 o.kind, .int .i64 o.id, .int .i64 o.up, .int .i64 o.at_, .string o.txt]
  rw [World.size_alloc] at K0
  go_enter Tryd.func3, Tryd.ntmps3
  go_upto_region 1 with fail
  generalize ((w.alloc (.cells #[.int .i64 c.who, .int .i64 c.seen, .slice ba c.base.length bcp, .slice wa c.wait.length wcp, .int .i64 c.done, .int .i64 c.made] 25)).alloc (.cells #[.int .i64 o.kind, .int .i64 o.id, .int .i64 o.up, .int .i64 o.at_, .string o.txt] 27)) = w0 at *
  obtain ⟨x0, x1, x2, x3, x4, x5⟩ := A0.cli
  go_wp2_with fail
  refine (szClient_any c ba wa bcp wcp w0 (h.on al al.size) hf).mono ?_
  rintro _ w1 ⟨z, rfl, hz', b1⟩
  have L1 := below_step al b1 al.size
  have A1 := A0.below b1 A0.lt
  have K1 := K0.below b1 K0.lt
  clear al A0 K0 b1 x0 x1 x2 x3 x4 x5
  rcases hz' with hneg | ⟨hpos, hz1, hl⟩
  · go_wp2
    go_ret
    exact ⟨rfl, L1⟩
  · have HF := Lib.hid (cliFit_of hf hl)
    obtain ⟨k0, k1, k2, k3, k4⟩ := K1.op5c
    go_wp2_with fail
    refine (szOp_any o z _ ho.txt hz1 hpos).mono ?_
    rintro _ w2 ⟨z2, rfl, b2⟩
    have L2 := below_step L1 b2 L1.size
    have A2 := A1.below b2 A1.lt
    have K2 := K1.below b2 K1.lt
    clear L1 A1 K1 b2 k0 k1 k2 k3 k4
    by_cases hz2 : z2 < 0
    · go_wp2
      go_ret
      exact ⟨rfl, L2⟩
    · have HT : Hid (∀ x, Below w.heap.size w x → Calls Tryd.prog 8 #[.agg #[.int .i64 c.who, .int .i64 c.seen, .slice ba c.base.length bcp, .slice wa c.wait.length wcp, .int .i64 c.done, .int .i64 c.made]] x (RetToCli c x)) := fun x hx => toClient_any c ba wa bcp wcp x (h.on hx hx.size) (by omega) (by omega)
      have HS : Hid (∀ (g h : Nat) (x : World), OwnP c g h x → Calls Tryd.prog 7 #[.agg #[.int .i64 c.who, .int .i64 c.seen, .slice (some ⟨g, 0, none⟩) c.base.length c.base.length, .slice (some ⟨h, 0, none⟩) c.wait.length c.wait.length, .int .i64 c.done, .int .i64 c.made], .agg #[.int .i64 o.kind, .int .i64 o.id, .int .i64 o.up, .int .i64 o.at_, .string o.txt]] x (RetCliB (cliDo c o) false (cliDoB c o) x)) := fun g h x q => specClientDo_any c o g 0 _ h 0 _ x (cliAt_own q.1 q.2 hl) q.1.lt q.2.lt HF.out ho
      have HI : Hid (∀ (g h : Nat) (x : World), OwnP c g h x → Below w.heap.size w x → Calls Tryd.prog 10 #[.agg #[.int .i64 c.who, .int .i64 c.seen, .slice (some ⟨g, 0, none⟩) c.base.length c.base.length, .slice (some ⟨h, 0, none⟩) c.wait.length c.wait.length, .int .i64 c.done, .int .i64 c.made], .agg #[.int .i64 o.kind, .int .i64 o.id, .int .i64 o.up, .int .i64 o.at_, .string o.txt]] x (RetCliB (cliDo c o) false (cliDoB c o) x)) := fun g h x q q2 => implClientDo_any c o _ _ _ _ x (cliAt_own q.1 q.2 hl) HF.out ho (ht.below q2 hz)
      have hrl : (cliDo c o).base.length + (cliDo c o).wait.length ≤ 1048576 := cliDo_len hl
      generalize cliDo c o = rs at *
      generalize cliDoB c o = tb at *
      go_upto_region 8 with fail
      have hlA := A2.lt
      have hlK := K2.lt
      obtain ⟨x0, x1, x2, x3, x4, x5⟩ := A2.cli
      obtain ⟨k0, k1, k2, k3, k4⟩ := K2.op5c
      go_cut [6, 7] (fun p q wx => ∃ bw va vb xa xb, p = .pointer (some ⟨bw, 0, none⟩) ∧ q = .bool tb ∧ Bx wx bw 33 #[.int .i64 rs.who, .int .i64 rs.seen, .slice va rs.base.length vb, .slice xa rs.wait.length xb, .int .i64 rs.done, .int .i64 rs.made] ∧ CliGot w2.heap.size wx rs va vb xa xb ∧ Below w2.heap.size w2 wx)
      case first =>
        have HSb : Hid (∀ x : World, Below w2.heap.size w2 x → x.cell? ⟨w.heap.size, 0, none⟩ = some (.int .i64 c.who) ∧ x.cell? ⟨w.heap.size, 1, none⟩ = some (.int .i64 c.seen) ∧ x.cell? ⟨w.heap.size, 2, none⟩ = some (.slice ba c.base.length bcp) ∧ x.cell? ⟨w.heap.size, 3, none⟩ = some (.slice wa c.wait.length wcp) ∧ x.cell? ⟨w.heap.size, 4, none⟩ = some (.int .i64 c.done) ∧ x.cell? ⟨w.heap.size, 5, none⟩ = some (.int .i64 c.made) ∧ x.cell? ⟨w.heap.size + 1, 0, none⟩ = some (.int .i64 o.kind) ∧ x.cell? ⟨w.heap.size + 1, 1, none⟩ = some (.int .i64 o.id) ∧ x.cell? ⟨w.heap.size + 1, 2, none⟩ = some (.int .i64 o.up) ∧ x.cell? ⟨w.heap.size + 1, 3, none⟩ = some (.int .i64 o.at_) ∧ x.cell? ⟨w.heap.size + 1, 4, none⟩ = some (.string o.txt)) := fun x hx => ⟨(hx.cell (p := ⟨_, 0, none⟩) hlA).trans x0, (hx.cell (p := ⟨_, 1, none⟩) hlA).trans x1, (hx.cell (p := ⟨_, 2, none⟩) hlA).trans x2, (hx.cell (p := ⟨_, 3, none⟩) hlA).trans x3, (hx.cell (p := ⟨_, 4, none⟩) hlA).trans x4, (hx.cell (p := ⟨_, 5, none⟩) hlA).trans x5, (hx.cell (p := ⟨_, 0, none⟩) hlK).trans k0, (hx.cell (p := ⟨_, 1, none⟩) hlK).trans k1, (hx.cell (p := ⟨_, 2, none⟩) hlK).trans k2, (hx.cell (p := ⟨_, 3, none⟩) hlK).trans k3, (hx.cell (p := ⟨_, 4, none⟩) hlK).trans k4⟩
        refine wp_region_loose (n := 16) (fun x => Below w2.heap.size w2 x) (XAt 9 33) (dOf [(1, fun _ v x => ∃ g h, v = .agg #[.int .i64 c.who, .int .i64 c.seen, .slice (some ⟨g, 0, none⟩) c.base.length c.base.length, .slice (some ⟨h, 0, none⟩) c.wait.length c.wait.length, .int .i64 c.done, .int .i64 c.made] ∧ OwnP c g h x), (3, fun _ v _ => v = .agg #[.int .i64 o.kind, .int .i64 o.id, .int .i64 o.up, .int .i64 o.at_, .string o.txt]), (4, fun _ v x => ∃ va vb xa xb, v = .tuple #[.agg #[.int .i64 rs.who, .int .i64 rs.seen, .slice va rs.base.length vb, .slice xa rs.wait.length xb, .int .i64 rs.done, .int .i64 rs.made], .bool tb] ∧ CliGot w2.heap.size x rs va vb xa xb), (8, fun _ v x => ∃ b, v = .pointer (some ⟨b, 0, none⟩) ∧ w2.heap.size ≤ b ∧ BxAny x b 6 33), (9, fun xs _ x => ∃ b c0 c1 c2 c3 c4 c5, xs = [.pointer (some ⟨b, 0, none⟩), .agg #[c0, c1, c2, c3, c4, c5]] ∧ Bx x b 33 #[c0, c1, c2, c3, c4, c5])]) (by kernel_rfl) (by kernel_rfl) (dOf_stable ?hst) ((Below.refl w2.heap.size w2).drew) ?hgo
        case hst =>
          intro p hp i hi xs v x x' hx hr
          simp only [List.mem_cons, List.not_mem_nil, or_false] at hp
          rcases hp with rfl | rfl | rfl | rfl | rfl
          · obtain ⟨g, h, e, h1, h2⟩ := hr; exact ⟨g, h, e, h1.ext hx.2 (by decide), h2.ext hx.2 (by decide)⟩
          · exact hr
          · obtain ⟨va, vb, xa, xb, e, h1⟩ := hr; exact ⟨va, vb, xa, xb, e, h1.ext hx.2 (by decide) (by decide)⟩
          · obtain ⟨b, e, h1, h2⟩ := hr; exact ⟨b, e, h1, h2.ext hx.2⟩
          · obtain ⟨b, c0, c1, c2, c3, c4, c5, e, h1⟩ := hr; exact ⟨b, c0, c1, c2, c3, c4, c5, e, h1.below (hx.1 hi) h1.lt⟩
        case hgo =>
          refine wpL_pure (v := ?_) (by rfl) (by rfl) ?hv ?hn
          case hv =>
            intro x hx
            obtain ⟨x0, x1, x2, x3, x4, x5, k0, k1, k2, k3, k4⟩ := HSb.out x hx
            go_simp
            all_goals (try with_reducible rfl)
          case hn =>
          try simp only [Act.put, List.setIfInBounds_toArray, List.set_cons_zero, List.set_cons_succ]
          refine wpL_fact (by rfl) (by rfl) ?h1 ?h2
          case h1 =>
            intro x hx _
            go_simp
            simp only [looseR]
            refine (HT.out x (L2.trans (hx.mono L2.size))).mono ?_
            rintro _ y ⟨g3, h3, rfl, _, _, oS1, oS2, bN⟩
            exact ⟨_, rfl, hx.trans (bN.mono hx.size), XAt.of bN, g3, h3, rfl, oS1, oS2⟩
          case h2 =>
          rintro v F1 H1 ⟨_, _, _, g3, h3, rfl, _⟩
          try simp only [Act.put, List.setIfInBounds_toArray, List.set_cons_zero, List.set_cons_succ]
          refine wpL_pure (v := ?_) (by rfl) (by rfl) ?hv ?hn
          case hv =>
            intro x hx
            obtain ⟨x0, x1, x2, x3, x4, x5, k0, k1, k2, k3, k4⟩ := HSb.out x hx
            go_simp
            all_goals (try with_reducible rfl)
          case hn =>
          try simp only [Act.put, List.setIfInBounds_toArray, List.set_cons_zero, List.set_cons_succ]
          refine wpL_fact (by rfl) (by rfl) ?h1 ?h2
          case h1 =>
            intro x hx _
            go_simp
            simp only [looseR]
            refine (toOp_any o x).mono ?_
            rintro _ y ⟨rfl, bN⟩
            exact ⟨_, rfl, hx.trans (bN.mono hx.size), XAt.of bN, rfl⟩
          case h2 =>
          rintro v F2 H2 ⟨_, _, _, rfl⟩
          try simp only [Act.put, List.setIfInBounds_toArray, List.set_cons_zero, List.set_cons_succ]
          refine wpL_fact (by rfl) (by rfl) ?h1 ?h2
          case h1 =>
            intro x hx hf
            obtain ⟨g4, h4, e4, o3⟩ := H1 x (hf.2.1 (by kernel_rfl))
            cases e4
            have o3 : OwnP c g3 h3 x := o3
            clear hf
            go_simp
            simp only [looseR]
            refine (HS.out g3 h3 x o3).mono ?_
            rintro _ y ⟨va, vb, xa, xb, rfl, V, _, bN⟩
            exact ⟨_, rfl, hx.trans (bN.mono hx.size), XAt.of bN, va, vb, xa, xb, rfl, V.base hx.size⟩
          case h2 =>
          rintro v F3 H3 ⟨_, _, _, va, vb, xa, xb, rfl, _⟩
          try simp only [Act.put, List.setIfInBounds_toArray, List.set_cons_zero, List.set_cons_succ]
          refine wpL_pure (v := ?_) (by rfl) (by rfl) ?hv ?hn
          case hv =>
            intro x hx
            go_simp
            all_goals (try with_reducible rfl)
          case hn =>
          try simp only [Act.put, List.setIfInBounds_toArray, List.set_cons_zero, List.set_cons_succ]
          refine wpL_pure (v := ?_) (by rfl) (by rfl) ?hv ?hn
          case hv =>
            intro x hx
            go_simp
            all_goals (try with_reducible rfl)
          case hn =>
          try simp only [Act.put, List.setIfInBounds_toArray, List.set_cons_zero, List.set_cons_succ]
          refine wpL_pure (v := ?_) (by rfl) (by rfl) ?hv ?hn
          case hv =>
            intro x hx
            go_simp
            all_goals (try with_reducible rfl)
          case hn =>
          try simp only [Act.put, List.setIfInBounds_toArray, List.set_cons_zero, List.set_cons_succ]
          refine wpL_fact (by rfl) (by rfl) ?h1 ?h2
          case h1 =>
            intro x hx _
            go_simp
            simp only [looseR]
            exact ⟨hx.alloc hx.size _, XAt.of ((Below.refl _ _).alloc (Nat.le_refl _) _), _, rfl, hx.size, _, Bx.new x _ _, rfl⟩
          case h2 =>
          rintro v F4 H4 ⟨_, _, _, bz, rfl, hbz, _⟩
          try simp only [Act.put, List.setIfInBounds_toArray, List.set_cons_zero, List.set_cons_succ]
          refine wpL_fact (by rfl) (by rfl) ?h1 ?h2
          case h1 =>
            intro x hx hf
            obtain ⟨b4, e4, _, cs4, X4, hs4⟩ := H4 x (hf.1 (by kernel_rfl))
            cases e4
            clear hf
            obtain ⟨d0, d1, d2, d3, d4, d5, X4⟩ := X4.sixC hs4
            clear hs4
            obtain ⟨z0, z1, z2, z3, z4, z5⟩ := X4.cli
            have y0 := X4.frozen 0
            have y1 := X4.frozen 1
            have y2 := X4.frozen 2
            have y3 := X4.frozen 3
            have y4 := X4.frozen 4
            have y5 := X4.frozen 5
            have HY := Lib.hid (ExtT.set6 X4 (.int .i64 rs.who) (.int .i64 rs.seen) (.slice va rs.base.length vb) (.slice xa rs.wait.length xb) (.int .i64 rs.done) (.int .i64 rs.made))
            have QZ := Lib.hid ((((((X4.put 0 (.int .i64 rs.who)).put 1 (.int .i64 rs.seen)).put 2 (.slice va rs.base.length vb)).put 3 (.slice xa rs.wait.length xb)).put 4 (.int .i64 rs.done)).put 5 (.int .i64 rs.made))
            have HB := Lib.hid (below_given6 hx hbz (.int .i64 rs.who) (.int .i64 rs.seen) (.slice va rs.base.length vb) (.slice xa rs.wait.length xb) (.int .i64 rs.done) (.int .i64 rs.made))
            clear X4
            go_simp
            simp only [looseR]
            exact ⟨HB.out, ⟨fun q => absurd rfl q, HY.out⟩, bz, _, _, _, _, _, _, rfl, QZ.out⟩
          case h2 =>
          rintro v F5 H5 _
          simp only [Act.put]
          refine wpL_pure (v := ?_) (by rfl) (by rfl) ?hv ?hn
          case hv =>
            intro x hx
            go_simp
            all_goals (try with_reducible rfl)
          case hn =>
          try simp only [Act.put, List.setIfInBounds_toArray, List.set_cons_zero, List.set_cons_succ]
          refine wpL_nil fun x hx hf => ?_
          obtain ⟨b5, c0, c1, c2, c3, c4, c5, e5, X5⟩ := H5 x hf.1
          obtain ⟨_, _, _, _, e3, V5⟩ := H3 x hf.2.2.1
          cases e3
          have e5 : ([.pointer (some ⟨bz, 0, none⟩), .agg #[.int .i64 rs.who, .int .i64 rs.seen, .slice va rs.base.length vb, .slice xa rs.wait.length xb, .int .i64 rs.done, .int .i64 rs.made]] : List Value) = [.pointer (some ⟨b5, 0, none⟩), .agg #[c0, c1, c2, c3, c4, c5]] := e5
          cases e5
          clear hf H1 H2 H3 H4 H5
          try dsimp only
          first | (go_wp2; go_meet) | go_meet
          exact ⟨_, va, vb, xa, xb, rfl, rfl, X5, V5, hx⟩
      case rest =>
        obtain ⟨bw, va, vb, xa, xb, rfl, rfl, B4, V4g, b4⟩ := hcut
        have L4 := below_step L2 b4 L2.size
        have A4 := A2.below b4 A2.lt
        have K4 := K2.below b4 K2.lt
        have V4 := V4g.at_
        have hws := L4.size
        clear L2 A2 K2 b4 V4g hlA hlK x0 x1 x2 x3 x4 x5 k0 k1 k2 k3 k4 HS
        generalize hw4 : wc = w4 at *
        clear hw4
        obtain ⟨x0, x1, x2, x3, x4, x5⟩ := A4.cli
        go_wp2_with fail
        refine (HT.out w4 L4).mono ?_
        rintro _ w5 ⟨g2, h2, rfl, hg2, hh2, o5a, o5b, b5⟩
        have o5 : OwnP c g2 h2 w5 := ⟨o5a, o5b⟩
        have L5 := below_step L4 b5 L4.size
        have A5 := A4.below b5 A4.lt
        have K5 := K4.below b5 K4.lt
        have V5 := V4.below b5
        have B5 := B4.below b5 B4.lt
        have s5 := b5.size
        clear L4 A4 K4 V4 B4 b5 x0 x1 x2 x3 x4 x5 o5a o5b
        have X6 := Bx.new w5 33 #[.int .i64 c.who, .int .i64 c.seen, .slice (some ⟨g2, 0, none⟩) c.base.length c.base.length, .slice (some ⟨h2, 0, none⟩) c.wait.length c.wait.length, .int .i64 c.done, .int .i64 c.made]
        have al5 := (Below.refl w5.heap.size w5).alloc (Nat.le_refl _) (.cells #[.int .i64 c.who, .int .i64 c.seen, .slice (some ⟨g2, 0, none⟩) c.base.length c.base.length, .slice (some ⟨h2, 0, none⟩) c.wait.length c.wait.length, .int .i64 c.done, .int .i64 c.made] 33)
        have L6 := below_step L5 al5 L5.size
        have A6 := A5.below al5 A5.lt
        have K6 := K5.below al5 K5.lt
        have V6 := V5.below (al5.mono s5)
        have B6 := B5.below al5 B5.lt
        have o6 := o5.below al5
        have s6 := Nat.le_trans s5 al5.size
        clear L5 A5 K5 V5 B5 o5 al5
        go_upto_region 10 with fail
        generalize w5.alloc (.cells #[.int .i64 c.who, .int .i64 c.seen, .slice (some ⟨g2, 0, none⟩) c.base.length c.base.length, .slice (some ⟨h2, 0, none⟩) c.wait.length c.wait.length, .int .i64 c.done, .int .i64 c.made] 33) = w6 at *
        generalize w5.heap.size = bx at *
        go_upto_region 10 with fail
        have hlA := X6.lt
        have hlK := K6.lt
        obtain ⟨x0, x1, x2, x3, x4, x5⟩ := X6.cli
        obtain ⟨k0, k1, k2, k3, k4⟩ := K6.op5c
        go_cut [9, 10] (fun p q wx => ∃ bw va vb xa xb, p = .pointer (some ⟨bw, 0, none⟩) ∧ q = .bool tb ∧ Bx wx bw 33 #[.int .i64 rs.who, .int .i64 rs.seen, .slice va rs.base.length vb, .slice xa rs.wait.length xb, .int .i64 rs.done, .int .i64 rs.made] ∧ CliGot w6.heap.size wx rs va vb xa xb ∧ Below w6.heap.size w6 wx)
        case first =>
          have HSb : Hid (∀ x : World, Below w6.heap.size w6 x → x.cell? ⟨bx, 0, none⟩ = some (.int .i64 c.who) ∧ x.cell? ⟨bx, 1, none⟩ = some (.int .i64 c.seen) ∧ x.cell? ⟨bx, 2, none⟩ = some (.slice (some ⟨g2, 0, none⟩) c.base.length c.base.length) ∧ x.cell? ⟨bx, 3, none⟩ = some (.slice (some ⟨h2, 0, none⟩) c.wait.length c.wait.length) ∧ x.cell? ⟨bx, 4, none⟩ = some (.int .i64 c.done) ∧ x.cell? ⟨bx, 5, none⟩ = some (.int .i64 c.made) ∧ x.cell? ⟨w.heap.size + 1, 0, none⟩ = some (.int .i64 o.kind) ∧ x.cell? ⟨w.heap.size + 1, 1, none⟩ = some (.int .i64 o.id) ∧ x.cell? ⟨w.heap.size + 1, 2, none⟩ = some (.int .i64 o.up) ∧ x.cell? ⟨w.heap.size + 1, 3, none⟩ = some (.int .i64 o.at_) ∧ x.cell? ⟨w.heap.size + 1, 4, none⟩ = some (.string o.txt)) := fun x hx => ⟨(hx.cell (p := ⟨_, 0, none⟩) hlA).trans x0, (hx.cell (p := ⟨_, 1, none⟩) hlA).trans x1, (hx.cell (p := ⟨_, 2, none⟩) hlA).trans x2, (hx.cell (p := ⟨_, 3, none⟩) hlA).trans x3, (hx.cell (p := ⟨_, 4, none⟩) hlA).trans x4, (hx.cell (p := ⟨_, 5, none⟩) hlA).trans x5, (hx.cell (p := ⟨_, 0, none⟩) hlK).trans k0, (hx.cell (p := ⟨_, 1, none⟩) hlK).trans k1, (hx.cell (p := ⟨_, 2, none⟩) hlK).trans k2, (hx.cell (p := ⟨_, 3, none⟩) hlK).trans k3, (hx.cell (p := ⟨_, 4, none⟩) hlK).trans k4⟩
          refine wp_region_loose (n := 16) (fun x => Below w6.heap.size w6 x) (XAt 8 33) (dOf [(2, fun _ v _ => v = .agg #[.int .i64 o.kind, .int .i64 o.id, .int .i64 o.up, .int .i64 o.at_, .string o.txt]), (3, fun _ v x => ∃ va vb xa xb, v = .tuple #[.agg #[.int .i64 rs.who, .int .i64 rs.seen, .slice va rs.base.length vb, .slice xa rs.wait.length xb, .int .i64 rs.done, .int .i64 rs.made], .bool tb] ∧ CliGot w6.heap.size x rs va vb xa xb), (7, fun _ v x => ∃ b, v = .pointer (some ⟨b, 0, none⟩) ∧ w6.heap.size ≤ b ∧ BxAny x b 6 33), (8, fun xs _ x => ∃ b c0 c1 c2 c3 c4 c5, xs = [.pointer (some ⟨b, 0, none⟩), .agg #[c0, c1, c2, c3, c4, c5]] ∧ Bx x b 33 #[c0, c1, c2, c3, c4, c5])]) (by kernel_rfl) (by kernel_rfl) (dOf_stable ?hst) ((Below.refl w6.heap.size w6).drew) ?hgo
          case hst =>
            intro p hp i hi xs v x x' hx hr
            simp only [List.mem_cons, List.not_mem_nil, or_false] at hp
            rcases hp with rfl | rfl | rfl | rfl
            · exact hr
            · obtain ⟨va, vb, xa, xb, e, h1⟩ := hr; exact ⟨va, vb, xa, xb, e, h1.ext hx.2 (by decide) (by decide)⟩
            · obtain ⟨b, e, h1, h2⟩ := hr; exact ⟨b, e, h1, h2.ext hx.2⟩
            · obtain ⟨b, c0, c1, c2, c3, c4, c5, e, h1⟩ := hr; exact ⟨b, c0, c1, c2, c3, c4, c5, e, h1.below (hx.1 hi) h1.lt⟩
          case hgo =>
            refine wpL_pure (v := ?_) (by rfl) (by rfl) ?hv ?hn
            case hv =>
              intro x hx
              obtain ⟨x0, x1, x2, x3, x4, x5, k0, k1, k2, k3, k4⟩ := HSb.out x hx
              go_simp
              all_goals (try with_reducible rfl)
            case hn =>
            try simp only [Act.put, List.setIfInBounds_toArray, List.set_cons_zero, List.set_cons_succ]
            refine wpL_pure (v := ?_) (by rfl) (by rfl) ?hv ?hn
            case hv =>
              intro x hx
              obtain ⟨x0, x1, x2, x3, x4, x5, k0, k1, k2, k3, k4⟩ := HSb.out x hx
              go_simp
              all_goals (try with_reducible rfl)
            case hn =>
            try simp only [Act.put, List.setIfInBounds_toArray, List.set_cons_zero, List.set_cons_succ]
            refine wpL_fact (by rfl) (by rfl) ?h1 ?h2
            case h1 =>
              intro x hx _
              go_simp
              simp only [looseR]
              refine (toOp_any o x).mono ?_
              rintro _ y ⟨rfl, bN⟩
              exact ⟨_, rfl, hx.trans (bN.mono hx.size), XAt.of bN, rfl⟩
            case h2 =>
            rintro v F2 H2 ⟨_, _, _, rfl⟩
            try simp only [Act.put, List.setIfInBounds_toArray, List.set_cons_zero, List.set_cons_succ]
            refine wpL_fact (by rfl) (by rfl) ?h1 ?h2
            case h1 =>
              intro x hx hf
              clear hf
              go_simp
              simp only [looseR]
              refine (HI.out g2 h2 x (o6.below hx) (L6.trans (hx.mono L6.size))).mono ?_
              rintro _ y ⟨va, vb, xa, xb, rfl, V, _, bN⟩
              exact ⟨_, rfl, hx.trans (bN.mono hx.size), XAt.of bN, va, vb, xa, xb, rfl, V.base hx.size⟩
            case h2 =>
            rintro v F3 H3 ⟨_, _, _, va, vb, xa, xb, rfl, _⟩
            try simp only [Act.put, List.setIfInBounds_toArray, List.set_cons_zero, List.set_cons_succ]
            refine wpL_pure (v := ?_) (by rfl) (by rfl) ?hv ?hn
            case hv =>
              intro x hx
              go_simp
              all_goals (try with_reducible rfl)
            case hn =>
            try simp only [Act.put, List.setIfInBounds_toArray, List.set_cons_zero, List.set_cons_succ]
            refine wpL_pure (v := ?_) (by rfl) (by rfl) ?hv ?hn
            case hv =>
              intro x hx
              go_simp
              all_goals (try with_reducible rfl)
            case hn =>
            try simp only [Act.put, List.setIfInBounds_toArray, List.set_cons_zero, List.set_cons_succ]
            refine wpL_pure (v := ?_) (by rfl) (by rfl) ?hv ?hn
            case hv =>
              intro x hx
              go_simp
              all_goals (try with_reducible rfl)
            case hn =>
            try simp only [Act.put, List.setIfInBounds_toArray, List.set_cons_zero, List.set_cons_succ]
            refine wpL_fact (by rfl) (by rfl) ?h1 ?h2
            case h1 =>
              intro x hx _
              go_simp
              simp only [looseR]
              exact ⟨hx.alloc hx.size _, XAt.of ((Below.refl _ _).alloc (Nat.le_refl _) _), _, rfl, hx.size, _, Bx.new x _ _, rfl⟩
            case h2 =>
            rintro v F4 H4 ⟨_, _, _, bz, rfl, hbz, _⟩
            try simp only [Act.put, List.setIfInBounds_toArray, List.set_cons_zero, List.set_cons_succ]
            refine wpL_fact (by rfl) (by rfl) ?h1 ?h2
            case h1 =>
              intro x hx hf
              obtain ⟨b4, e4, _, cs4, X4, hs4⟩ := H4 x (hf.1 (by kernel_rfl))
              cases e4
              clear hf
              obtain ⟨d0, d1, d2, d3, d4, d5, X4⟩ := X4.sixC hs4
              clear hs4
              obtain ⟨z0, z1, z2, z3, z4, z5⟩ := X4.cli
              have y0 := X4.frozen 0
              have y1 := X4.frozen 1
              have y2 := X4.frozen 2
              have y3 := X4.frozen 3
              have y4 := X4.frozen 4
              have y5 := X4.frozen 5
              have HY := Lib.hid (ExtT.set6 X4 (.int .i64 rs.who) (.int .i64 rs.seen) (.slice va rs.base.length vb) (.slice xa rs.wait.length xb) (.int .i64 rs.done) (.int .i64 rs.made))
              have QZ := Lib.hid ((((((X4.put 0 (.int .i64 rs.who)).put 1 (.int .i64 rs.seen)).put 2 (.slice va rs.base.length vb)).put 3 (.slice xa rs.wait.length xb)).put 4 (.int .i64 rs.done)).put 5 (.int .i64 rs.made))
              have HB := Lib.hid (below_given6 hx hbz (.int .i64 rs.who) (.int .i64 rs.seen) (.slice va rs.base.length vb) (.slice xa rs.wait.length xb) (.int .i64 rs.done) (.int .i64 rs.made))
              clear X4
              go_simp
              simp only [looseR]
              exact ⟨HB.out, ⟨fun q => absurd rfl q, HY.out⟩, bz, _, _, _, _, _, _, rfl, QZ.out⟩
            case h2 =>
            rintro v F5 H5 _
            simp only [Act.put]
            refine wpL_pure (v := ?_) (by rfl) (by rfl) ?hv ?hn
            case hv =>
              intro x hx
              go_simp
              all_goals (try with_reducible rfl)
            case hn =>
            try simp only [Act.put, List.setIfInBounds_toArray, List.set_cons_zero, List.set_cons_succ]
            refine wpL_nil fun x hx hf => ?_
            obtain ⟨b5, c0, c1, c2, c3, c4, c5, e5, X5⟩ := H5 x hf.1
            obtain ⟨_, _, _, _, e3, V5⟩ := H3 x hf.2.2.1
            cases e3
            have e5 : ([.pointer (some ⟨bz, 0, none⟩), .agg #[.int .i64 rs.who, .int .i64 rs.seen, .slice va rs.base.length vb, .slice xa rs.wait.length xb, .int .i64 rs.done, .int .i64 rs.made]] : List Value) = [.pointer (some ⟨b5, 0, none⟩), .agg #[c0, c1, c2, c3, c4, c5]] := e5
            cases e5
            clear hf H2 H3 H4 H5
            try dsimp only
            first | (go_wp2; go_meet) | go_meet
            exact ⟨_, va, vb, xa, xb, rfl, rfl, X5, V5, hx⟩
        case rest =>
          obtain ⟨bg, ga, gb, ha, hb, rfl, rfl, Q_8, G_8, b8⟩ := hcut
          have L_8 := below_step L6 b8 L6.size
          have A_8 := A6.below b8 A6.lt
          have K_8 := K6.below b8 K6.lt
          have B_8 := B6.below b8 B6.lt
          have V_8 := V6.below (b8.mono s6)
          have X_8 := X6.below b8 X6.lt
          have o_8 := OwnP.below o6 b8
          have hg2q : g2 < w6.heap.size := o6.1.lt
          have hh2q : h2 < w6.heap.size := o6.2.lt
          have sq_8 : w6.heap.size ≤ wc.heap.size := b8.size
          have sv_8 := Nat.le_trans s6 b8.size
          have svq : w4.heap.size ≤ w6.heap.size := s6
          clear L6 A6 K6 B6 V6 X6 o6 b8 hlA hlK x0 x1 x2 x3 x4 x5 k0 k1 k2 k3 k4
          generalize hw8 : wc = w8 at *
          clear hw8
          generalize w6.heap.size = q6 at *
          generalize w4.heap.size = s4 at *
          obtain ⟨x0, x1, x2, x3, x4, x5⟩ := Q_8.cli
          obtain ⟨y0, y1, y2, y3, y4, y5⟩ := B_8.cli
          go_wp2_with fail
          refine (eqClient_same rs _ _ _ _ _ _ _ _ _ G_8.at_ (V_8.mono sv_8) (by omega) (by omega)).mono ?_
          rintro _ w9 ⟨rfl, b9⟩
          clear x0 x1 x2 x3 x4 x5 y0 y1 y2 y3 y4 y5
          have L_9 := below_step L_8 b9 L_8.size
          have A_9 := A_8.below b9 A_8.lt
          have K_9 := K_8.below b9 K_8.lt
          have V_9 := V_8.below (b9.mono sv_8)
          have X_9 := X_8.below b9 X_8.lt
          have o_9 := OwnP.below o_8 b9
          have G_9 := G_8.below b9 (Nat.le_refl _)
          have B_9 := B_8.below b9 B_8.lt
          have Q_9 := Q_8.below b9 Q_8.lt
          have sv_9 := Nat.le_trans sv_8 b9.size
          have sq_9 := Nat.le_trans sq_8 b9.size
          clear L_8 A_8 K_8 V_8 X_8 o_8 G_8 B_8 Q_8 sv_8 sq_8 b9
          go_upto_region 13 with fail
          have Ld := L_9.drew
          have Xd := X_9.drew
          have od := OwnP.below o_9 ((Below.refl w9.heap.size w9).drew)
          obtain ⟨x0, x1, x2, x3, x4, x5⟩ := A_9.cli
          obtain ⟨y0, y1, y2, y3, y4, y5⟩ := X_9.cli
          go_cut [56] (fun p wx => p = .bool false ∧ Below w9.heap.size w9 wx)
          case first =>
            go_region_with (first
              | (go_at_call 8; refine (HT.out _ Ld).mono ?_; rintro _ wa' ⟨g3, h3, rfl, hg3, hh3, o3, e3, ba'⟩; have Xa := Xd.below ba' Xd.lt; have oa := OwnP.below od ba'; obtain ⟨p0, p1, p2, p3, p4, p5⟩ := Xa.cli)
              | (go_at_call 11; refine (eqClient_same c _ _ _ _ _ _ _ _ _ (cliAt_own oa.1 oa.2 hl) (cliAt_own o3 e3 hl) (by omega) (by omega)).mono ?_; rintro _ wb ⟨rfl, bb⟩; have bab := below_step ((Below.refl w9.heap.size w9).drew.trans ba') bb ba'.size))
            all_goals
              go_wp2
              go_meet
              exact ⟨rfl, bab⟩
          case rest =>
            obtain ⟨rfl, bcc⟩ := hcut
            clear Ld Xd od x0 x1 x2 x3 x4 x5 y0 y1 y2 y3 y4 y5
            generalize hwc9 : wc = wc9 at *
            clear hwc9
            have L_10 := below_step L_9 bcc L_9.size
            have A_10 := A_9.below bcc A_9.lt
            have K_10 := K_9.below bcc K_9.lt
            have V_10 := V_9.below (bcc.mono sv_9)
            have X_10 := X_9.below bcc X_9.lt
            have o_10 := OwnP.below o_9 bcc
            have G_10 := G_9.below bcc (Nat.le_refl _)
            have B_10 := B_9.below bcc B_9.lt
            have Q_10 := Q_9.below bcc Q_9.lt
            have sv_10 := Nat.le_trans sv_9 bcc.size
            have sq_10 := Nat.le_trans sq_9 bcc.size
            clear L_9 A_9 K_9 V_9 X_9 o_9 G_9 B_9 Q_9 sv_9 sq_9 bcc
            obtain ⟨x0, x1, x2, x3, x4, x5⟩ := X_10.cli
            go_wp2_with fail
            refine (markClient_any s4 c _ _ _ _ _ sv_10 (.inr ⟨g2, _, rfl, hg2, o_10.1⟩) (.inr ⟨h2, _, rfl, hh2, o_10.2⟩) hl).mono ?_
            rintro _ wd ⟨rfl, md⟩
            have L_11 := L_10.trans (md.low.mono hws)
            have A_11 := md.box _ _ _ (by decide) (by decide) A_10
            have K_11 := md.box _ _ _ (by decide) (by decide) K_10
            have V_11 := V_10.below md.low
            have B_11 := md.box _ _ _ (by decide) (by decide) B_10
            have Q_11 := md.box _ _ _ (by decide) (by decide) Q_10
            have G_11 : CliGot q6 wd rs ga gb ha hb := ⟨md.rows q6 _ _ (.inr fun g' e => by cases e; exact hg2q) G_10.rows, md.ents q6 _ _ (.inr fun g' e => by cases e; exact hh2q) G_10.ents, G_10.bl, G_10.bm, G_10.wl, G_10.wm⟩
            have sv_11 := Nat.le_trans sv_10 md.size
            have sq_11 := Nat.le_trans sq_10 md.size
            have hk1 : ¬ ((c.wait.length : Int) * 7 + ((c.base.length : Int) * 3 + 1) < 0) := by omega
            clear L_10 A_10 K_10 V_10 X_10 o_10 G_10 B_10 Q_10 sv_10 sq_10 md x0 x1 x2 x3 x4 x5
            obtain ⟨x0, x1, x2, x3, x4, x5⟩ := Q_11.cli
            obtain ⟨y0, y1, y2, y3, y4, y5⟩ := B_11.cli
            go_wp2_with fail
            refine (eqClient_same rs _ _ _ _ _ _ _ _ _ G_11.at_ (V_11.mono sv_11) (by omega) (by omega)).mono ?_
            rintro _ we ⟨rfl, be⟩
            clear x0 x1 x2 x3 x4 x5 y0 y1 y2 y3 y4 y5
            have L_12 := below_step L_11 be L_11.size
            have A_12 := A_11.below be A_11.lt
            have K_12 := K_11.below be K_11.lt
            have V_12 := V_11.below (be.mono sv_11)
            have G_12 := G_11.below be (Nat.le_refl _)
            have B_12 := B_11.below be B_11.lt
            have Q_12 := Q_11.below be Q_11.lt
            have sv_12 := Nat.le_trans sv_11 be.size
            have sq_12 := Nat.le_trans sq_11 be.size
            clear L_11 A_11 K_11 V_11 G_11 B_11 Q_11 sv_11 sq_11 be
            obtain ⟨x0, x1, x2, x3, x4, x5⟩ := Q_12.cli
            go_wp2_with fail
            refine (markClient_any q6 rs _ _ _ _ _ sq_12 G_12.rows G_12.ents hrl).mono ?_
            rintro _ wf ⟨rfl, mf⟩
            have L_13 := L_12.trans (mf.low.mono (Nat.le_trans hws svq))
            have A_13 := mf.box _ _ _ (by decide) (by decide) A_12
            have K_13 := mf.box _ _ _ (by decide) (by decide) K_12
            have V_13 := V_12.below (mf.low.mono svq)
            have B_13 := mf.box _ _ _ (by decide) (by decide) B_12
            have Q_13 := mf.box _ _ _ (by decide) (by decide) Q_12
            have MR_13 := mf.gotR
            have ME_13 := mf.gotE
            have sv_13 := Nat.le_trans sv_12 mf.size
            have sq_13 := Nat.le_trans sq_12 mf.size
            have hq1 : ¬ ((rs.wait.length : Int) * 7 + ((rs.base.length : Int) * 3 + 1) < 0) := by omega
            clear L_12 A_12 K_12 V_12 G_12 B_12 Q_12 sv_12 sq_12 mf x0 x1 x2 x3 x4 x5
            obtain ⟨x0, x1, x2, x3, x4, x5⟩ := Q_13.cli
            go_wp2_with fail
            refine (heldClient_any _ _ _ _ _ _ _ _ rs.base.length rs.wait.length _ MR_13.rows ME_13.ents hrl).mono ?_
            rintro _ wg ⟨rfl, bg2⟩
            clear x0 x1 x2 x3 x4 x5
            have L_14 := below_step L_13 bg2 L_13.size
            have A_14 := A_13.below bg2 A_13.lt
            have K_14 := K_13.below bg2 K_13.lt
            have V_14 := V_13.below (bg2.mono sv_13)
            have B_14 := B_13.below bg2 B_13.lt
            have Q_14 := Q_13.below bg2 Q_13.lt
            have MR_14 := MR_13.below bg2 (Nat.le_refl _)
            have ME_14 := ME_13.below bg2 (Nat.le_refl _)
            have sv_14 := Nat.le_trans sv_13 bg2.size
            have sq_14 := Nat.le_trans sq_13 bg2.size
            clear L_13 A_13 K_13 V_13 B_13 Q_13 MR_13 ME_13 sv_13 sq_13 bg2
            go_upto_region 27 with fail
            have hlA := A_14.lt
            have hlK := K_14.lt
            obtain ⟨x0, x1, x2, x3, x4, x5⟩ := A_14.cli
            obtain ⟨k0, k1, k2, k3, k4⟩ := K_14.op5c
            go_cut [14, 15] (fun p q wx => ∃ bw va vb xa xb, p = .pointer (some ⟨bw, 0, none⟩) ∧ q = .bool tb ∧ Bx wx bw 33 #[.int .i64 rs.who, .int .i64 rs.seen, .slice va rs.base.length vb, .slice xa rs.wait.length xb, .int .i64 rs.done, .int .i64 rs.made] ∧ CliGot wg.heap.size wx rs va vb xa xb ∧ Below wg.heap.size wg wx)
            case first =>
              have HSb : Hid (∀ x : World, Below wg.heap.size wg x → x.cell? ⟨w.heap.size, 0, none⟩ = some (.int .i64 c.who) ∧ x.cell? ⟨w.heap.size, 1, none⟩ = some (.int .i64 c.seen) ∧ x.cell? ⟨w.heap.size, 2, none⟩ = some (.slice ba c.base.length bcp) ∧ x.cell? ⟨w.heap.size, 3, none⟩ = some (.slice wa c.wait.length wcp) ∧ x.cell? ⟨w.heap.size, 4, none⟩ = some (.int .i64 c.done) ∧ x.cell? ⟨w.heap.size, 5, none⟩ = some (.int .i64 c.made) ∧ x.cell? ⟨w.heap.size + 1, 0, none⟩ = some (.int .i64 o.kind) ∧ x.cell? ⟨w.heap.size + 1, 1, none⟩ = some (.int .i64 o.id) ∧ x.cell? ⟨w.heap.size + 1, 2, none⟩ = some (.int .i64 o.up) ∧ x.cell? ⟨w.heap.size + 1, 3, none⟩ = some (.int .i64 o.at_) ∧ x.cell? ⟨w.heap.size + 1, 4, none⟩ = some (.string o.txt)) := fun x hx => ⟨(hx.cell (p := ⟨_, 0, none⟩) hlA).trans x0, (hx.cell (p := ⟨_, 1, none⟩) hlA).trans x1, (hx.cell (p := ⟨_, 2, none⟩) hlA).trans x2, (hx.cell (p := ⟨_, 3, none⟩) hlA).trans x3, (hx.cell (p := ⟨_, 4, none⟩) hlA).trans x4, (hx.cell (p := ⟨_, 5, none⟩) hlA).trans x5, (hx.cell (p := ⟨_, 0, none⟩) hlK).trans k0, (hx.cell (p := ⟨_, 1, none⟩) hlK).trans k1, (hx.cell (p := ⟨_, 2, none⟩) hlK).trans k2, (hx.cell (p := ⟨_, 3, none⟩) hlK).trans k3, (hx.cell (p := ⟨_, 4, none⟩) hlK).trans k4⟩
              refine wp_region_loose (n := 16) (fun x => Below wg.heap.size wg x) (XAt 9 33) (dOf [(1, fun _ v x => ∃ g h, v = .agg #[.int .i64 c.who, .int .i64 c.seen, .slice (some ⟨g, 0, none⟩) c.base.length c.base.length, .slice (some ⟨h, 0, none⟩) c.wait.length c.wait.length, .int .i64 c.done, .int .i64 c.made] ∧ OwnP c g h x), (3, fun _ v _ => v = .agg #[.int .i64 o.kind, .int .i64 o.id, .int .i64 o.up, .int .i64 o.at_, .string o.txt]), (4, fun _ v x => ∃ va vb xa xb, v = .tuple #[.agg #[.int .i64 rs.who, .int .i64 rs.seen, .slice va rs.base.length vb, .slice xa rs.wait.length xb, .int .i64 rs.done, .int .i64 rs.made], .bool tb] ∧ CliGot wg.heap.size x rs va vb xa xb), (8, fun _ v x => ∃ b, v = .pointer (some ⟨b, 0, none⟩) ∧ wg.heap.size ≤ b ∧ BxAny x b 6 33), (9, fun xs _ x => ∃ b c0 c1 c2 c3 c4 c5, xs = [.pointer (some ⟨b, 0, none⟩), .agg #[c0, c1, c2, c3, c4, c5]] ∧ Bx x b 33 #[c0, c1, c2, c3, c4, c5])]) (by kernel_rfl) (by kernel_rfl) (dOf_stable ?hst) ((Below.refl wg.heap.size wg).drew) ?hgo
              case hst =>
                intro p hp i hi xs v x x' hx hr
                simp only [List.mem_cons, List.not_mem_nil, or_false] at hp
                rcases hp with rfl | rfl | rfl | rfl | rfl
                · obtain ⟨g, h, e, h1, h2⟩ := hr; exact ⟨g, h, e, h1.ext hx.2 (by decide), h2.ext hx.2 (by decide)⟩
                · exact hr
                · obtain ⟨va, vb, xa, xb, e, h1⟩ := hr; exact ⟨va, vb, xa, xb, e, h1.ext hx.2 (by decide) (by decide)⟩
                · obtain ⟨b, e, h1, h2⟩ := hr; exact ⟨b, e, h1, h2.ext hx.2⟩
                · obtain ⟨b, c0, c1, c2, c3, c4, c5, e, h1⟩ := hr; exact ⟨b, c0, c1, c2, c3, c4, c5, e, h1.below (hx.1 hi) h1.lt⟩
              case hgo =>
                refine wpL_pure (v := ?_) (by rfl) (by rfl) ?hv ?hn
                case hv =>
                  intro x hx
                  obtain ⟨x0, x1, x2, x3, x4, x5, k0, k1, k2, k3, k4⟩ := HSb.out x hx
                  go_simp
                  all_goals (try with_reducible rfl)
                case hn =>
                try simp only [Act.put, List.setIfInBounds_toArray, List.set_cons_zero, List.set_cons_succ]
                refine wpL_fact (by rfl) (by rfl) ?h1 ?h2
                case h1 =>
                  intro x hx _
                  go_simp
                  simp only [looseR]
                  refine (HT.out x (L_14.trans (hx.mono L_14.size))).mono ?_
                  rintro _ y ⟨g3, h3, rfl, _, _, oS1, oS2, bN⟩
                  exact ⟨_, rfl, hx.trans (bN.mono hx.size), XAt.of bN, g3, h3, rfl, oS1, oS2⟩
                case h2 =>
                rintro v F1 H1 ⟨_, _, _, g3, h3, rfl, _⟩
                try simp only [Act.put, List.setIfInBounds_toArray, List.set_cons_zero, List.set_cons_succ]
                refine wpL_pure (v := ?_) (by rfl) (by rfl) ?hv ?hn
                case hv =>
                  intro x hx
                  obtain ⟨x0, x1, x2, x3, x4, x5, k0, k1, k2, k3, k4⟩ := HSb.out x hx
                  go_simp
                  all_goals (try with_reducible rfl)
                case hn =>
                try simp only [Act.put, List.setIfInBounds_toArray, List.set_cons_zero, List.set_cons_succ]
                refine wpL_fact (by rfl) (by rfl) ?h1 ?h2
                case h1 =>
                  intro x hx _
                  go_simp
                  simp only [looseR]
                  refine (toOp_any o x).mono ?_
                  rintro _ y ⟨rfl, bN⟩
                  exact ⟨_, rfl, hx.trans (bN.mono hx.size), XAt.of bN, rfl⟩
                case h2 =>
                rintro v F2 H2 ⟨_, _, _, rfl⟩
                try simp only [Act.put, List.setIfInBounds_toArray, List.set_cons_zero, List.set_cons_succ]
                refine wpL_fact (by rfl) (by rfl) ?h1 ?h2
                case h1 =>
                  intro x hx hf
                  obtain ⟨g4, h4, e4, o3⟩ := H1 x (hf.2.1 (by kernel_rfl))
                  cases e4
                  have o3 : OwnP c g3 h3 x := o3
                  clear hf
                  go_simp
                  simp only [looseR]
                  refine (HI.out g3 h3 x o3 (L_14.trans (hx.mono L_14.size))).mono ?_
                  rintro _ y ⟨va, vb, xa, xb, rfl, V, _, bN⟩
                  exact ⟨_, rfl, hx.trans (bN.mono hx.size), XAt.of bN, va, vb, xa, xb, rfl, V.base hx.size⟩
                case h2 =>
                rintro v F3 H3 ⟨_, _, _, va, vb, xa, xb, rfl, _⟩
                try simp only [Act.put, List.setIfInBounds_toArray, List.set_cons_zero, List.set_cons_succ]
                refine wpL_pure (v := ?_) (by rfl) (by rfl) ?hv ?hn
                case hv =>
                  intro x hx
                  go_simp
                  all_goals (try with_reducible rfl)
                case hn =>
                try simp only [Act.put, List.setIfInBounds_toArray, List.set_cons_zero, List.set_cons_succ]
                refine wpL_pure (v := ?_) (by rfl) (by rfl) ?hv ?hn
                case hv =>
                  intro x hx
                  go_simp
                  all_goals (try with_reducible rfl)
                case hn =>
                try simp only [Act.put, List.setIfInBounds_toArray, List.set_cons_zero, List.set_cons_succ]
                refine wpL_pure (v := ?_) (by rfl) (by rfl) ?hv ?hn
                case hv =>
                  intro x hx
                  go_simp
                  all_goals (try with_reducible rfl)
                case hn =>
                try simp only [Act.put, List.setIfInBounds_toArray, List.set_cons_zero, List.set_cons_succ]
                refine wpL_fact (by rfl) (by rfl) ?h1 ?h2
                case h1 =>
                  intro x hx _
                  go_simp
                  simp only [looseR]
                  exact ⟨hx.alloc hx.size _, XAt.of ((Below.refl _ _).alloc (Nat.le_refl _) _), _, rfl, hx.size, _, Bx.new x _ _, rfl⟩
                case h2 =>
                rintro v F4 H4 ⟨_, _, _, bz, rfl, hbz, _⟩
                try simp only [Act.put, List.setIfInBounds_toArray, List.set_cons_zero, List.set_cons_succ]
                refine wpL_fact (by rfl) (by rfl) ?h1 ?h2
                case h1 =>
                  intro x hx hf
                  obtain ⟨b4, e4, _, cs4, X4, hs4⟩ := H4 x (hf.1 (by kernel_rfl))
                  cases e4
                  clear hf
                  obtain ⟨d0, d1, d2, d3, d4, d5, X4⟩ := X4.sixC hs4
                  clear hs4
                  obtain ⟨z0, z1, z2, z3, z4, z5⟩ := X4.cli
                  have y0 := X4.frozen 0
                  have y1 := X4.frozen 1
                  have y2 := X4.frozen 2
                  have y3 := X4.frozen 3
                  have y4 := X4.frozen 4
                  have y5 := X4.frozen 5
                  have HY := Lib.hid (ExtT.set6 X4 (.int .i64 rs.who) (.int .i64 rs.seen) (.slice va rs.base.length vb) (.slice xa rs.wait.length xb) (.int .i64 rs.done) (.int .i64 rs.made))
                  have QZ := Lib.hid ((((((X4.put 0 (.int .i64 rs.who)).put 1 (.int .i64 rs.seen)).put 2 (.slice va rs.base.length vb)).put 3 (.slice xa rs.wait.length xb)).put 4 (.int .i64 rs.done)).put 5 (.int .i64 rs.made))
                  have HB := Lib.hid (below_given6 hx hbz (.int .i64 rs.who) (.int .i64 rs.seen) (.slice va rs.base.length vb) (.slice xa rs.wait.length xb) (.int .i64 rs.done) (.int .i64 rs.made))
                  clear X4
                  go_simp
                  simp only [looseR]
                  exact ⟨HB.out, ⟨fun q => absurd rfl q, HY.out⟩, bz, _, _, _, _, _, _, rfl, QZ.out⟩
                case h2 =>
                rintro v F5 H5 _
                simp only [Act.put]
                refine wpL_pure (v := ?_) (by rfl) (by rfl) ?hv ?hn
                case hv =>
                  intro x hx
                  go_simp
                  all_goals (try with_reducible rfl)
                case hn =>
                try simp only [Act.put, List.setIfInBounds_toArray, List.set_cons_zero, List.set_cons_succ]
                refine wpL_nil fun x hx hf => ?_
                obtain ⟨b5, c0, c1, c2, c3, c4, c5, e5, X5⟩ := H5 x hf.1
                obtain ⟨_, _, _, _, e3, V5⟩ := H3 x hf.2.2.1
                cases e3
                have e5 : ([.pointer (some ⟨bz, 0, none⟩), .agg #[.int .i64 rs.who, .int .i64 rs.seen, .slice va rs.base.length vb, .slice xa rs.wait.length xb, .int .i64 rs.done, .int .i64 rs.made]] : List Value) = [.pointer (some ⟨b5, 0, none⟩), .agg #[c0, c1, c2, c3, c4, c5]] := e5
                cases e5
                clear hf H1 H2 H3 H4 H5
                try dsimp only
                first | (go_wp2; go_meet) | go_meet
                exact ⟨_, va, vb, xa, xb, rfl, rfl, X5, V5, hx⟩
            case rest =>
              obtain ⟨bh9, ia, ib, ja, jb, rfl, rfl, P9, H9, b9⟩ := hcut
              clear hlA hlK x0 x1 x2 x3 x4 x5 k0 k1 k2 k3 k4
              generalize hwc14 : wc = wc14 at *
              clear hwc14
              have L_15 := below_step L_14 b9 L_14.size
              have A_15 := A_14.below b9 A_14.lt
              have K_15 := K_14.below b9 K_14.lt
              have V_15 := V_14.below (b9.mono sv_14)
              have B_15 := B_14.below b9 B_14.lt
              have Q_15 := Q_14.below b9 Q_14.lt
              have MR_15 := MR_14.below b9 (Nat.le_refl _)
              have ME_15 := ME_14.below b9 (Nat.le_refl _)
              have sv_15 := Nat.le_trans sv_14 b9.size
              have sq_15 := Nat.le_trans sq_14 b9.size
              clear L_14 A_14 K_14 V_14 B_14 Q_14 MR_14 ME_14 sv_14 sq_14 b9
              obtain ⟨x0, x1, x2, x3, x4, x5⟩ := P9.cli
              obtain ⟨y0, y1, y2, y3, y4, y5⟩ := B_15.cli
              go_wp2_with fail
              refine (eqClient_same rs _ _ _ _ _ _ _ _ _ H9.at_ (V_15.mono sv_15) (by omega) (by omega)).mono ?_
              rintro _ wk ⟨rfl, bk⟩
              clear H9 P9 x0 x1 x2 x3 x4 x5 y0 y1 y2 y3 y4 y5
              have L_16 := below_step L_15 bk L_15.size
              have Q_16 := Q_15.below bk Q_15.lt
              have MR_16 := MR_15.below bk (Nat.le_refl _)
              have ME_16 := ME_15.below bk (Nat.le_refl _)
              have sv_16 := Nat.le_trans sv_15 bk.size
              have sq_16 := Nat.le_trans sq_15 bk.size
              clear L_15 Q_15 MR_15 ME_15 sv_15 sq_15 bk
              obtain ⟨x0, x1, x2, x3, x4, x5⟩ := Q_16.cli
              go_wp2_with fail
              refine (heldClient_any _ _ _ _ _ _ _ _ rs.base.length rs.wait.length _ MR_16.rows ME_16.ents hrl).mono ?_
              rintro _ wl ⟨rfl, bl⟩
              clear x0 x1 x2 x3 x4 x5
              have Lf := below_step L_16 bl L_16.size
              clear bl Q_16 MR_16 ME_16
              go_wp2
              go_ret
              exact ⟨rfl, Lf⟩
end Go.Proofs.YtogafpfgdonlmaaDoor
