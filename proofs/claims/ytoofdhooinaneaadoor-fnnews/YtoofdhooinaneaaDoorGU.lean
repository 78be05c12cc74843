/-
  Joined texts, each with its own head: what it holds, and its conditions.
-/
import Derived.Test.YtoofdhooinaneaaDoorGS
import Derived.Lib.LazyBuf
import Derived.Lib.SliceRun
import Derived.Deep.RegionLaw

/-
  Contract of slices.Delete at entries, from a place to the end. Conditions: as the theorem says.
-/
namespace Go.Proofs.YtoofdhooinaneaaDoor
open Go.ChangeShapes Go.WideShapes Go.ChangeAt Go.RowKit Go.Joins

/-- 'clear(s)' on a slice of n > 0 elements of any size: its cells hold the element type's zero value; nothing else turns. -/
theorem run_clear_cells {P : Program} (w : World) (t e ty : TypeId) (z : Value) (ht : P.underlying t = some (.slice e)) (hv : ∀ w, (zeroValue e).run P w = .ok z w) (b o n c : Nat) (hn : 0 < n) (zs : List Value) (hz : (Builtin.zeroCells z.cells n).toList = zs) (h1 : ∀ v ∈ zs, v.oneCell' = true)
    (hc : ∀ j, j < zs.length → (w.cell? ⟨b, o + j, none⟩).isSome = true) (hf : ∀ j, j < zs.length → w.frozen? ⟨b, o + j, none⟩ = false) :
    (Builtin.clear_ #[t] ty #[.slice (some ⟨b, o, none⟩) n c]).run P w = .ok (.tuple #[]) (w.setCells b o zs) := by
  have hst := run_storeCells_cells (P := P) b o zs 0 w (by simpa using hc) (by simpa using hf) h1
  simp only [Nat.add_zero] at hst
  obtain ⟨m, rfl⟩ : ∃ m, n = m + 1 := ⟨n - 1, by omega⟩
  simp [Builtin.clear_, run_underlying ht, hv, hz, hst]
/-- The cells of n zero entries. -/
def zeroE (n : Nat) : List Value := (Builtin.zeroCells (Value.agg #[.int .i64 0, .int .i64 0, .int .i64 0, .int .i64 0, .int .i64 0, .int .i64 0, .string ⟨#[]⟩]).cells n).toList
theorem zeroE_len (n : Nat) : (zeroE n).length = n * 7 := by simp [zeroE, Builtin.zeroCells, Value.cells]
theorem zeroE_one (n : Nat) : ∀ v ∈ zeroE n, v.oneCell' = true := by
  intro v hv
  simp only [zeroE, Builtin.zeroCells, Value.cells, Array.toList_map, List.mem_map] at hv
  obtain ⟨i, _, rfl⟩ := hv
  have h7 : i % 7 < 7 := Nat.mod_lt _ (by decide)
  have hs : (#[Value.int .i64 0, .int .i64 0, .int .i64 0, .int .i64 0, .int .i64 0, .int .i64 0, .string ⟨#[]⟩] : Array Value).size = 7 := rfl
  rw [hs]
  generalize i % 7 = k at *
  match k, h7 with
  | 0, _ => rfl
  | 1, _ => rfl
  | 2, _ => rfl
  | 3, _ => rfl
  | 4, _ => rfl
  | 5, _ => rfl
  | 6, _ => rfl
theorem zeroEnt (w : World) : (zeroValue 52).run Tryd.prog w = .ok (.agg #[.int .i64 0, .int .i64 0, .int .i64 0, .int .i64 0, .int .i64 0, .int .i64 0, .string ⟨#[]⟩]) w := by kernel_rfl
theorem But.setCells {b B : Nat} {w w' : World} (h : But b B w w') : ∀ (vs : List Value) (o : Nat), But b B w (w'.setCells b o vs)
  | [], _ => h
  | v :: r, o => (h.setCell o v).setCells r (o + 1)
def RetDel (base g c k : Nat) (es : List EntD) (w : World) (r : Ending) (w' : World) : Prop :=
  r = .returned (.slice (some ⟨g, 0, none⟩) k c) ∧ GotE base w' (some ⟨g, 0, none⟩) (es.take k) ∧ But g w.heap.size w w'
set_option maxRecDepth 100000 in
set_option maxHeartbeats 2000000 in
theorem slDelete_any (base g c k : Nat) (es : List EntD) (w : World) (hk : k ≤ es.length) (hcap : es.length ≤ c) (_hcm : c ≤ maxLen) (h : GotE base w (some ⟨g, 0, none⟩) es) :
    Calls Tryd.prog 92 #[.slice (some ⟨g, 0, none⟩) es.length c, .int .i64 k, .int .i64 es.length] w (RetDel base g c k es w) := by
  unfold maxLen at _hcm
  obtain ⟨i0, hi, hz0, hz1, hz2⟩ := info_parts infoEnt
  by_cases hke : k = es.length
  · subst hke
    have HF : Hid (GotE base w (some ⟨g, 0, none⟩) (es.take es.length)) := by unfold Hid; rw [List.take_length]; exact h
    clear h hi hz0 hz1 hz2
    go_enter Tryd.func92, Tryd.ntmps92
    go_wp2
    go_ret
    exact ⟨rfl, HF.out, But.refl _ _ _⟩
  · have hlt : k < es.length := by omega
    rcases h with h | ⟨g', C, e, hg, f, hrow, hC, hF⟩
    · omega
    cases e
    have hv : ∀ w : World, (zeroValue 52).run Tryd.prog w = .ok (.agg #[.int .i64 0, .int .i64 0, .int .i64 0, .int .i64 0, .int .i64 0, .int .i64 0, .string ⟨#[]⟩]) w := zeroEnt
    have hcl : ∀ ty, (Builtin.clear_ #[25] ty #[.slice (some ⟨g, k * 7, none⟩) (es.length - k) (c - k)]).run Tryd.prog w.drew = .ok (.tuple #[]) (w.drew.setCells g (k * 7) (zeroE (es.length - k))) := fun ty =>
      run_clear_cells w.drew _ _ ty _ Tryd.underlying25 hv g (k * 7) _ _ (by omega) _ rfl (zeroE_one _) (fun j hj => by rw [zeroE_len] at hj; rw [show w.drew.cell? ⟨g, k * 7 + j, none⟩ = w.cell? ⟨g, k * 7 + j, none⟩ from rfl, hrow.cell (show k * 7 + j < C by omega)]; rfl) (fun j hj => hrow.frozen _)
    have HR := Lib.hid (rowIs_setCells (zeroE (es.length - k)) (k * 7) w.drew f hrow)
    have HB : Hid (But g w.heap.size w (w.drew.setCells g (k * 7) (zeroE (es.length - k)))) := ((But.refl _ _ _).drew).setCells _ _
    have hx : ∃ A : Addr, (if c = es.length then some (⟨g, 0, none⟩ : Addr) else some ⟨g, es.length * 7, none⟩) = some A := by
      by_cases q : c = es.length
      · exact ⟨_, if_pos q⟩
      · exact ⟨_, if_neg q⟩
    obtain ⟨A, hA⟩ := hx
    have hkc : k ≤ c := by omega
    have HF : Hid (RetDel base g c k es w (.returned (.slice (some ⟨g, 0, none⟩) k c)) (w.drew.setCells g (k * 7) (zeroE (es.length - k)))) := by
      refine ⟨rfl, .inr ⟨g, C, rfl, hg, _, HR.out, by rw [List.length_take]; omega, fun i hi j hj => ?_⟩, HB.out⟩
      rw [List.length_take] at hi
      simp only []
      rw [if_neg (by omega), hF i (by omega) j hj, eat_take (by omega)]
    clear HR HB hv
    go_enter Tryd.func92, Tryd.ntmps92
    go_wp2_with fail
    go_region_law (refine step_append_room rfl (.tmp 22) (.tmp 25) 25 rfl 52 i0 7 Tryd.underlying25 hi hz1 g 0 k c (by simp [Act.eval, Act.put]) A 0 (c - es.length) [] (by simp [Act.eval, Act.put]) rfl (fun j u hu => by simp at hu) (fun u hu => by simp at hu) (by omega) (fun j hj => by simp at hj) ?_; simp only [World.setCells, Nat.add_zero])
    go_wp2
    go_ret
    exact HF.out
end Go.Proofs.YtoofdhooinaneaaDoor
/-
  Contracts of the program's (*host).server, (*safeLog).keepAll, news and lose. Conditions: as each theorem says.
-/

namespace Go.Proofs.YtoofdhooinaneaaDoor
open Go.ChangeShapes Go.WideShapes Go.ChangeAt Go.RowKit Go.Joins

set_option maxRecDepth 100000 in
theorem server_any (B : Nat) (a : Option Addr) (n c : Nat) (q : Value) (sf : Int) (up : Bool) (w : World) (h : Bx w B 92 #[.slice a n c, .int .i64 sf, q, .bool up]) :
    Calls Tryd.prog 61 #[.pointer (some ⟨B, 0, none⟩)] w (RetBelow (.agg #[.slice a n c, .int .i64 sf, .bool up]) w) := by
  have al := (Below.refl w.heap.size w).alloc (Nat.le_refl _) (.cells #[.slice none 0 0, .int .i64 0, .bool false] 43)
  have X0 := h.alloc (.cells #[.slice none 0 0, .int .i64 0, .bool false] 43)
  have Y0 := Bx.new w 43 #[.slice none 0 0, .int .i64 0, .bool false]
  have hlt := h.lt
  clear h
  go_enter Tryd.func61, Tryd.ntmps61
  go_upto_region 1 with fail
  generalize w.alloc (.cells #[.slice none 0 0, .int .i64 0, .bool false] 43) = w1 at *
  obtain ⟨x0, x1, x2, x3⟩ := X0.host
  obtain ⟨d0, d1, d2⟩ := Y0.srv
  have y0 := Y0.frozen 0
  have y1 := Y0.frozen 1
  have y2 := Y0.frozen 2
  have al' := al.drew
  clear X0 Y0
  go_wp2_with fail
  go_region
  all_goals
    go_wp2
    exact bodyPost_ret (v := .agg #[.slice a n c, .int .i64 sf, .bool up]) (by simp [results, Tryd.results61, go_sem, d0, d1, d2]) rfl ⟨rfl, by
      repeat (first | (with_reducible exact al) | (with_reducible exact al') | refine Below.setCell ?_ (by simp) _ | refine Below.drew ?_)⟩
theorem keepAll_any (B : Nat) (a : Option Addr) (n c : Nat) (q : Value) (sf : Int) (up : Bool) (w : World) (h : Bx w B 92 #[.slice a n c, .int .i64 sf, q, .bool up]) :
    Calls Tryd.prog 62 #[.pointer (some ⟨B, 0, none⟩)] w (fun r w' => r = .returned (.tuple #[]) ∧ w' = w.setCell ⟨B, 1, none⟩ (.int .i64 n)) := by
  obtain ⟨x0, x1, x2, x3⟩ := h.host
  have y1 := h.frozen 1
  go_enter Tryd.func62, Tryd.ntmps62
  go_wp2
  go_end0
  exact ⟨rfl, rfl⟩
/-- Where entries[j:k] lies. -/
theorem part_at {B g c j k : Nat} {w : World} {es : List EntD} (h : EntsAt B w (some ⟨g, 0, none⟩) es) (hlen : es.length ≤ c) : ∃ o, (if c = j then some (⟨g, 0, none⟩ : Addr) else some ⟨g, j * 7, none⟩) = some ⟨g, o, none⟩ ∧ EntsAt B w (some ⟨g, o, none⟩) ((es.drop j).take k) := by
  by_cases q : c = j
  · refine ⟨0, if_pos q, .inl ?_⟩
    rw [List.length_take, List.length_drop]; omega
  · refine ⟨j * 7, if_neg q, ?_⟩
    have := h.part j k
    simpa using this
set_option maxRecDepth 100000 in
theorem news_any (base B g c : Nat) (es : List EntD) (q : Value) (s f : Nat) (up : Bool) (w : World) (h : Bx w B 92 #[.slice (some ⟨g, 0, none⟩) es.length c, .int .i64 (s : Int), q, .bool up]) (hg : OwnG base w g c es) (hl : es.length ≤ 1048576) (h1 : f ≤ s) (h2 : s ≤ es.length) :
    Calls Tryd.prog 54 #[.pointer (some ⟨B, 0, none⟩), .int .i64 (f : Int)] w (RetCl ((es.drop f).take (s - f)) w) := by
  obtain ⟨x0, x1, x2, x3⟩ := h.host
  have hlc := hg.len
  have hcm := hg.cap
  unfold maxLen at hcm
  obtain ⟨o, ho, hat⟩ := part_at (j := f) (k := s - f) hg.drew.ents hg.len
  have hle : ((es.drop f).take (s - f)).length = s - f := by rw [List.length_take, List.length_drop]; omega
  generalize (es.drop f).take (s - f) = L at *
  have HCL := Lib.hid (slClone_some g o (c - f) L w.drew hg.hi hat (by omega))
  rw [hle] at HCL
  clear hle
  have HRT : Hid (∀ e w', RetCl L w.drew e w' → RetCl L w e w') := fun e w' ⟨g', c', h1, h2, h3⟩ => ⟨g', c', h1, h2, ((Below.refl w.heap.size w).drew).trans h3⟩
  have i1 : (f : Int) ≤ (s : Int) := by omega
  have i2 : (s : Int) ≤ (c : Int) := by omega
  have i3 : s ≤ c := by omega
  clear hat hg h
  go_enter Tryd.func54, Tryd.ntmps54
  go_wp2_with fail
  go_region_with (go_at_call 85; refine HCL.out.mono ?_; rintro _ w3 ⟨g3, c3, rfl, G3, b3⟩)
  all_goals
    go_wp2
    go_ret
    exact HRT.out _ _ ⟨g3, c3, rfl, G3, b3⟩
/-- What lose leaves. -/
def RetLose (base N B g c k : Nat) (es : List EntD) (q : Value) (sf : Int) (up : Bool) (w : World) (r : Ending) (w' : World) : Prop :=
  r = .returned (.tuple #[]) ∧ Bx w' B 92 #[.slice (some ⟨g, 0, none⟩) k c, .int .i64 sf, q, .bool up] ∧ OwnG base w' g c (es.take k) ∧ Below N w w'
set_option maxRecDepth 100000 in
set_option maxHeartbeats 4000000 in
theorem lose_any (base N B g c : Nat) (es : List EntD) (q : Value) (s l : Nat) (up : Bool) (w : World) (h : Bx w B 92 #[.slice (some ⟨g, 0, none⟩) es.length c, .int .i64 (s : Int), q, .bool up]) (hg : OwnG base w g c es) (hl : es.length ≤ 1048576) (h2 : s ≤ es.length) (hl2 : l ≤ 40) (hne : g ≠ B) (hN1 : N ≤ g) (hN2 : N ≤ B) :
    Calls Tryd.prog 63 #[.pointer (some ⟨B, 0, none⟩), .int .i64 (l : Int)] w (RetLose base N B g c (min es.length (s + l)) es q s up w) := by
  obtain ⟨x0, x1, x2, x3⟩ := h.host
  have hlc := hg.len
  have HD : Hid (∀ k, k ≤ es.length → Calls Tryd.prog 92 #[.slice (some ⟨g, 0, none⟩) es.length c, .int .i64 (k : Int), .int .i64 es.length] w.drew.drew (RetDel base g c k es w.drew.drew)) := fun k hk => slDelete_any base g c k es w.drew.drew hk hg.len hg.cap hg.drew.drew.got
  have HF : Hid (∀ k w3, k ≤ es.length → k = min es.length (s + l) → GotE base w3 (some ⟨g, 0, none⟩) (es.take k) → But g w.heap.size w.drew.drew w3 → Bx w3 B 92 #[.slice (some ⟨g, 0, none⟩) es.length c, .int .i64 (s : Int), q, .bool up] ∧ RetLose base N B g c (min es.length (s + l)) es q s up w (.returned (.tuple #[])) (w3.setCell ⟨B, 0, none⟩ (.slice (some ⟨g, 0, none⟩) k c))) := by
    intro k w3 hk hke hgot hbut
    have hB3 := h.drew.drew.but hbut h.lt (by omega)
    have hlt3 : g < w3.heap.size := Nat.lt_of_lt_of_le hg.hi hbut.size
    have hbel : Below N w w3 := (((Below.refl N w).drew).drew).trans (hbut.below hN1 (Nat.le_trans hN1 (Nat.le_of_lt hg.hi)))
    subst hke
    exact ⟨hB3, rfl, hB3.put 0 _, OwnG.put ⟨hgot, hg.lo, hlt3, by rw [List.length_take]; omega, hg.cap⟩ hne _, hbel.setCell (p := ⟨B, 0, none⟩) hN2 _⟩
  by_cases hc : (s : Int) + (l : Int) ≤ (es.length : Int)
  · have HD1 := Lib.hid (HD.out (s + l) (by omega))
    rw [show ((s + l : Nat) : Int) = (s : Int) + (l : Int) from Int.natCast_add s l] at HD1
    clear HD
    go_enter Tryd.func63, Tryd.ntmps63
    go_wp2_with fail
    go_region
    all_goals
      try omega
    all_goals
      go_wp2_with fail
      go_region_with (go_at_call 92; refine HD1.out.mono ?_; rintro _ w3 ⟨rfl, hgot, hbut⟩; obtain ⟨X3, R3⟩ := HF.out _ w3 (by omega) (by omega) hgot hbut; obtain ⟨z0, z1, z2, z3⟩ := X3.host; have y0 := X3.frozen 0)
      all_goals
        go_wp2
        go_end0
        exact R3
  · have HD1 := Lib.hid (HD.out es.length (Nat.le_refl _))
    clear HD
    go_enter Tryd.func63, Tryd.ntmps63
    go_wp2_with fail
    go_region
    all_goals
      try omega
    all_goals
      go_wp2_with fail
      go_region_with (go_at_call 92; refine HD1.out.mono ?_; rintro _ w3 ⟨rfl, hgot, hbut⟩; obtain ⟨X3, R3⟩ := HF.out _ w3 (by omega) (by omega) hgot hbut; obtain ⟨z0, z1, z2, z3⟩ := X3.host; have y0 := X3.frozen 0)
      all_goals
        go_wp2
        go_end0
        exact R3
end Go.Proofs.YtoofdhooinaneaaDoor
/-
  Contracts of the program's (*queue).put, (*queue).take and (*safeLog).add. Conditions: as each theorem says.
-/
namespace Go.Proofs.YtoofdhooinaneaaDoor
open Go.ChangeShapes Go.WideShapes Go.ChangeAt Go.RowKit Go.Joins

/-- The queue of a host holds one entry. -/
def RetPut (B : Nat) (v : Value) (sf : Int) (up : Bool) (e : EntD) (w : World) (r : Ending) (w' : World) : Prop :=
  r = .returned (.tuple #[]) ∧ ∃ q c, Bx w' B 92 #[v, .int .i64 sf, .slice (some ⟨q, 0, none⟩) 1 c, .bool up] ∧ w.heap.size ≤ q ∧ q < w'.heap.size ∧ EntsAt w'.heap.size w' (some ⟨q, 0, none⟩) [e] ∧ But B w.heap.size w w' ∧ 1 ≤ c ∧ c ≤ maxLen
set_option maxRecDepth 100000 in
set_option maxHeartbeats 1000000 in
theorem put_any (B : Nat) (v : Value) (sf : Int) (up : Bool) (e : EntD) (w : World) (h : Bx w B 92 #[v, .int .i64 sf, .slice none 0 0, .bool up]) :
    Calls Tryd.prog 59 #[.pointer (some ⟨B, 2, none⟩), .agg #[.int .i64 e.who, .int .i64 e.seq, .int .i64 e.op.kind, .int .i64 e.op.id, .int .i64 e.op.up, .int .i64 e.op.at_, .string e.op.txt]] w (RetPut B v sf up e w) := by
  obtain ⟨i0, hi, hz0, hz1, hz2⟩ := info_parts infoEnt
  have hlt := h.lt
  have al := (Below.refl w.heap.size w).alloc (Nat.le_refl _) (.cells #[.int .i64 e.who, .int .i64 e.seq, .int .i64 e.op.kind, .int .i64 e.op.id, .int .i64 e.op.up, .int .i64 e.op.at_, .string e.op.txt] 52)
  have X1 := h.alloc (.cells #[.int .i64 e.who, .int .i64 e.seq, .int .i64 e.op.kind, .int .i64 e.op.id, .int .i64 e.op.up, .int .i64 e.op.at_, .string e.op.txt] 52)
  have E1 := ebox_new w e _ (Below.refl _ _)
  have hs1 : (w.alloc (.cells #[.int .i64 e.who, .int .i64 e.seq, .int .i64 e.op.kind, .int .i64 e.op.id, .int .i64 e.op.up, .int .i64 e.op.at_, .string e.op.txt] 52)).heap.size = w.heap.size + 1 := by simp
  clear h
  go_enter Tryd.func59, Tryd.ntmps59
  go_upto_region 1 with fail
  generalize w.alloc (.cells #[.int .i64 e.who, .int .i64 e.seq, .int .i64 e.op.kind, .int .i64 e.op.id, .int .i64 e.op.up, .int .i64 e.op.at_, .string e.op.txt] 52) = w1 at *
  obtain ⟨e0, e1, e2, e3, e4, e5, e6⟩ := E1
  obtain ⟨x0, x1, x2, x3⟩ := X1.host
  have X1d := X1.drew
  have ald := al.drew
  have hsd : w1.drew.heap.size = w.heap.size + 1 := hs1
  have hown0 : (w1.drew.alloc (.cells #[.int .i64 e.who, .int .i64 e.seq, .int .i64 e.op.kind, .int .i64 e.op.id, .int .i64 e.op.up, .int .i64 e.op.at_, .string e.op.txt] 52)).ownsRow w.heap.size 52 7 (.slice none 0 0) 0 [] := ⟨rfl, .inl ⟨rfl, rfl⟩⟩
  have HEC := Lib.hid (elem_cells w1.drew e)
  have hbn : Below w.heap.size w (w1.drew.alloc (.cells #[.int .i64 e.who, .int .i64 e.seq, .int .i64 e.op.kind, .int .i64 e.op.id, .int .i64 e.op.up, .int .i64 e.op.at_, .string e.op.txt] 52)) := ald.alloc ald.size _
  have X2 := X1d.alloc (.cells #[.int .i64 e.who, .int .i64 e.seq, .int .i64 e.op.kind, .int .i64 e.op.id, .int .i64 e.op.up, .int .i64 e.op.at_, .string e.op.txt] 52)
  have hbs := hbn.size
  have HF : Hid (∀ v4 w4, w4.ownsRow w.heap.size 52 7 v4 (0 + 1) ([] ++ cellsE [e]) → World.grownBy (w1.drew.alloc (.cells #[.int .i64 e.who, .int .i64 e.seq, .int .i64 e.op.kind, .int .i64 e.op.id, .int .i64 e.op.up, .int .i64 e.op.at_, .string e.op.txt] 52)) w4 (Value.slice none 0 0).ownBlock → ∃ q c, v4 = .slice (some ⟨q, 0, none⟩) 1 c ∧ Bx w4 B 92 #[v, .int .i64 sf, .slice none 0 0, .bool up] ∧ RetPut B v sf up e w (.returned (.tuple #[])) (w4.setCell ⟨B, 2, none⟩ (.slice (some ⟨q, 0, none⟩) 1 c))) := by
    intro v4 w4 own4 grow4
    have hb4 : Below w.heap.size w w4 := hbn.grown grow4 hbn.size (fun k hk => by cases hk)
    have hX4 : Bx w4 B 92 #[v, .int .i64 sf, .slice none 0 0, .bool up] := by
      have hk : Below (w1.drew.alloc (.cells #[.int .i64 e.who, .int .i64 e.seq, .int .i64 e.op.kind, .int .i64 e.op.id, .int .i64 e.op.up, .int .i64 e.op.at_, .string e.op.txt] 52)).heap.size (w1.drew.alloc (.cells #[.int .i64 e.who, .int .i64 e.seq, .int .i64 e.op.kind, .int .i64 e.op.id, .int .i64 e.op.up, .int .i64 e.op.at_, .string e.op.txt] 52)) w4 := (Below.refl _ _).grown grow4 (Nat.le_refl _) (fun k hk => by cases hk)
      exact X2.below hk X2.lt
    have own4' : w4.ownsRow w.heap.size 52 7 v4 1 (cellsE [e]) := by simpa using own4
    obtain ⟨q, c, rfl, hq1, _, _⟩ := own_form own4' (by omega)
    have hcm := own_capm own4'
    refine ⟨q, c, rfl, hX4, rfl, q, c, hX4.put 2 _, hq1, ?_, ?_, ?_, hcm.1, hcm.2⟩
    · have := (own_lt own4').2
      simpa [World.setCell] using this
    · have g4 : GotE w.heap.size w4 (some ⟨q, 0, none⟩) [e] := gotE_own own4'
      have := (g4.put (B := B) (j := 2) (fun g' eq => by cases eq; omega) (.slice (some ⟨q, 0, none⟩) 1 c)).ents
      simpa [World.setCell] using this
    · exact (But.of_below hb4).setCell 2 _
  clear X1 X1d al ald hbn X2
  go_wp2_with fail
  go_region_law (refine step_append_own rfl (.tmp 7) (.tmp 9) 90 rfl w.heap.size 52 i0 (.agg #[.int .i64 0, .int .i64 0, .int .i64 0, .int .i64 0, .int .i64 0, .int .i64 0, .string ⟨#[]⟩]) 7 64 Tryd.underlying90 hi hz0 hz1 hz2 rfl (by decide) _ _ _ (by simp [Act.eval]) hown0 ⟨w1.drew.heap.size, 0, none⟩ 1 1 (cellsE [e]) (by simp [Act.eval]) rfl HEC.out (cellsE_plain _) (by unfold maxLen; omega) (by omega) hbs ?_; intro v4 w4 own4 grow4; obtain ⟨q, c, rfl, X4, R4⟩ := HF.out v4 w4 own4 grow4; obtain ⟨z0, z1, z2, z3⟩ := X4.host; have y2 := X4.frozen 2)
  all_goals
    clear own4 grow4 hown0 HEC HF X4
    go_wp2
    go_end0
    exact R4
def RetTake0 (w : World) (r : Ending) (w' : World) : Prop := r = .returned (.tuple #[.agg #[.int .i64 0, .int .i64 0, .int .i64 0, .int .i64 0, .int .i64 0, .int .i64 0, .string ⟨#[]⟩], .bool false]) ∧ Below w.heap.size w w'
set_option maxRecDepth 100000 in
theorem take_none (B : Nat) (v : Value) (a : Option Addr) (c : Nat) (sf : Int) (up : Bool) (w : World) (h : Bx w B 92 #[v, .int .i64 sf, .slice a 0 c, .bool up]) :
    Calls Tryd.prog 90 #[.pointer (some ⟨B, 2, none⟩)] w (RetTake0 w) := by
  have X1 := h.alloc (.cells #[.int .i64 0, .int .i64 0, .int .i64 0, .int .i64 0, .int .i64 0, .int .i64 0, .string ⟨#[]⟩] 52)
  have al := (Below.refl w.heap.size w).alloc (Nat.le_refl _) (.cells #[.int .i64 0, .int .i64 0, .int .i64 0, .int .i64 0, .int .i64 0, .int .i64 0, .string ⟨#[]⟩] 52)
  have Y1 := Bx.new w 52 #[.int .i64 0, .int .i64 0, .int .i64 0, .int .i64 0, .int .i64 0, .int .i64 0, .string ⟨#[]⟩]
  clear h
  go_enter Tryd.func90, Tryd.ntmps90
  go_upto_region 1 with fail
  generalize w.alloc (.cells #[.int .i64 0, .int .i64 0, .int .i64 0, .int .i64 0, .int .i64 0, .int .i64 0, .string ⟨#[]⟩] 52) = w1 at *
  obtain ⟨x0, x1, x2, x3⟩ := X1.host
  have d0 := Y1.cell 0 rfl
  have d1 := Y1.cell 1 rfl
  have d2 := Y1.cell 2 rfl
  have d3 := Y1.cell 3 rfl
  have d4 := Y1.cell 4 rfl
  have d5 := Y1.cell 5 rfl
  have d6 := Y1.cell 6 rfl
  have y0 := Y1.frozen 0
  have y1 := Y1.frozen 1
  have y2 := Y1.frozen 2
  have y3 := Y1.frozen 3
  have y4 := Y1.frozen 4
  have y5 := Y1.frozen 5
  have y6 := Y1.frozen 6
  clear X1 Y1
  go_wp2
  exact bodyPost_ret (v := .tuple #[.agg #[.int .i64 0, .int .i64 0, .int .i64 0, .int .i64 0, .int .i64 0, .int .i64 0, .string ⟨#[]⟩], .bool false]) (by simp [results, Tryd.results90, go_sem, d0, d1, d2, d3, d4, d5, d6]) rfl ⟨rfl, by
    repeat (first | (with_reducible exact al) | refine Below.setCell ?_ (by simp) _ | refine Below.drew ?_)⟩
theorem But.given {b B r : Nat} {w w' : World} (h : But b B w w') (hr : B ≤ r) (v0 v1 v2 v3 v4 v5 v6 : Value) : But b B w (((((((w'.setCell ⟨r, 0, none⟩ v0).setCell ⟨r, 1, none⟩ v1).setCell ⟨r, 2, none⟩ v2).setCell ⟨r, 3, none⟩ v3).setCell ⟨r, 4, none⟩ v4).setCell ⟨r, 5, none⟩ v5).setCell ⟨r, 6, none⟩ v6) := (((((((h.setNew (p := ⟨r, 0, none⟩) hr v0).setNew (p := ⟨r, 1, none⟩) hr v1).setNew (p := ⟨r, 2, none⟩) hr v2).setNew (p := ⟨r, 3, none⟩) hr v3).setNew (p := ⟨r, 4, none⟩) hr v4).setNew (p := ⟨r, 5, none⟩) hr v5).setNew (p := ⟨r, 6, none⟩) hr v6)
def RetTake1 (B : Nat) (v : Value) (sf : Int) (up : Bool) (e : EntD) (w : World) (r : Ending) (w' : World) : Prop :=
  r = .returned (.tuple #[.agg #[.int .i64 e.who, .int .i64 e.seq, .int .i64 e.op.kind, .int .i64 e.op.id, .int .i64 e.op.up, .int .i64 e.op.at_, .string e.op.txt], .bool true]) ∧ ∃ a c, Bx w' B 92 #[v, .int .i64 sf, .slice a 0 c, .bool up] ∧ But B w.heap.size w w'
set_option maxRecDepth 100000 in
set_option maxHeartbeats 2000000 in
theorem take_one (B q c : Nat) (v : Value) (sf : Int) (up : Bool) (e : EntD) (w : World) (h : Bx w B 92 #[v, .int .i64 sf, .slice (some ⟨q, 0, none⟩) 1 c, .bool up]) (he : EntsAt w.heap.size w (some ⟨q, 0, none⟩) [e]) (hc : 1 ≤ c) (hcm : c ≤ maxLen) :
    Calls Tryd.prog 90 #[.pointer (some ⟨B, 2, none⟩)] w (RetTake1 B v sf up e w) := by
  have hlt := h.lt
  unfold maxLen at hcm
  have X1 := h.alloc (.cells #[.int .i64 0, .int .i64 0, .int .i64 0, .int .i64 0, .int .i64 0, .int .i64 0, .string ⟨#[]⟩] 52)
  have al := (Below.refl w.heap.size w).alloc (Nat.le_refl _) (.cells #[.int .i64 0, .int .i64 0, .int .i64 0, .int .i64 0, .int .i64 0, .int .i64 0, .string ⟨#[]⟩] 52)
  have Y1 := Bx.new w 52 #[.int .i64 0, .int .i64 0, .int .i64 0, .int .i64 0, .int .i64 0, .int .i64 0, .string ⟨#[]⟩]
  have hs1 : (w.alloc (.cells #[.int .i64 0, .int .i64 0, .int .i64 0, .int .i64 0, .int .i64 0, .int .i64 0, .string ⟨#[]⟩] 52)).heap.size = w.heap.size + 1 := by simp
  have he1 := he.below al
  clear h he
  go_enter Tryd.func90, Tryd.ntmps90
  go_upto_region 1 with fail
  generalize w.alloc (.cells #[.int .i64 0, .int .i64 0, .int .i64 0, .int .i64 0, .int .i64 0, .int .i64 0, .string ⟨#[]⟩] 52) = w1 at *
  obtain ⟨x0, x1, x2, x3⟩ := X1.host
  obtain ⟨qb, qo, eq, _, c0, c1, c2, c3, c4, c5, c6⟩ := he1.at_ (i := 0) (by simp)
  cases eq
  rw [show eat [e] 0 = e from rfl] at c0 c1 c2 c3 c4 c5 c6
  simp only [Nat.zero_mul, Nat.zero_add] at c0 c1 c2 c3 c4 c5 c6
  clear he1
  have X2 := X1.alloc (.cells #[.int .i64 e.who, .int .i64 e.seq, .int .i64 e.op.kind, .int .i64 e.op.id, .int .i64 e.op.up, .int .i64 e.op.at_, .string e.op.txt] 52)
  have Y2 := Y1.alloc (.cells #[.int .i64 e.who, .int .i64 e.seq, .int .i64 e.op.kind, .int .i64 e.op.id, .int .i64 e.op.up, .int .i64 e.op.at_, .string e.op.txt] 52)
  have al2 := al.alloc al.size (.cells #[.int .i64 e.who, .int .i64 e.seq, .int .i64 e.op.kind, .int .i64 e.op.id, .int .i64 e.op.up, .int .i64 e.op.at_, .string e.op.txt] 52)
  have E2 := Bx.new w1 52 #[.int .i64 e.who, .int .i64 e.seq, .int .i64 e.op.kind, .int .i64 e.op.id, .int .i64 e.op.up, .int .i64 e.op.at_, .string e.op.txt]
  clear X1 Y1 al
  go_upto_region 4 with fail
  generalize w1.alloc (.cells #[.int .i64 e.who, .int .i64 e.seq, .int .i64 e.op.kind, .int .i64 e.op.id, .int .i64 e.op.up, .int .i64 e.op.at_, .string e.op.txt] 52) = w2 at *
  rw [hs1] at E2
  clear x0 x1 x2 x3 c0 c1 c2 c3 c4 c5 c6
  obtain ⟨x0, x1, x2, x3⟩ := X2.host
  have f2 := X2.frozen 2
  have HP : Hid (∀ a c', Bx (w2.setCell ⟨B, 2, none⟩ (.slice a 0 c')) B 92 #[v, .int .i64 sf, .slice a 0 c', .bool up] ∧ Bx (w2.setCell ⟨B, 2, none⟩ (.slice a 0 c')) w.heap.size 52 #[.int .i64 0, .int .i64 0, .int .i64 0, .int .i64 0, .int .i64 0, .int .i64 0, .string ⟨#[]⟩] ∧ Bx (w2.setCell ⟨B, 2, none⟩ (.slice a 0 c')) (w.heap.size + 1) 52 #[.int .i64 e.who, .int .i64 e.seq, .int .i64 e.op.kind, .int .i64 e.op.id, .int .i64 e.op.up, .int .i64 e.op.at_, .string e.op.txt] ∧ But B w.heap.size w (w2.setCell ⟨B, 2, none⟩ (.slice a 0 c'))) := fun a c' => ⟨X2.put 2 _, Y2.other (by omega) _, E2.other (by omega) _, (But.of_below al2).setCell 2 _⟩
  clear X2 Y2 E2 al2
  by_cases hc1 : c = 1
  · subst hc1
    obtain ⟨P1, P2, P3, P4⟩ := HP.out (some ⟨q, 0, none⟩) 0
    clear HP
    go_upto_region 5 with fail
    generalize w2.setCell ⟨B, 2, none⟩ (.slice (some ⟨q, 0, none⟩) 0 0) = w3 at *
    clear x0 x1 x2 x3 f2
    have d0 := P2.cell 0 rfl
    have d1 := P2.cell 1 rfl
    have d2 := P2.cell 2 rfl
    have d3 := P2.cell 3 rfl
    have d4 := P2.cell 4 rfl
    have d5 := P2.cell 5 rfl
    have d6 := P2.cell 6 rfl
    have y0 := P2.frozen 0
    have y1 := P2.frozen 1
    have y2 := P2.frozen 2
    have y3 := P2.frozen 3
    have y4 := P2.frozen 4
    have y5 := P2.frozen 5
    have y6 := P2.frozen 6
    have e0 := P3.cell 0 rfl
    have e1 := P3.cell 1 rfl
    have e2 := P3.cell 2 rfl
    have e3 := P3.cell 3 rfl
    have e4 := P3.cell 4 rfl
    have e5 := P3.cell 5 rfl
    have e6 := P3.cell 6 rfl
    have hne : B ≠ w.heap.size := by omega
    clear P2 P3
    go_wp2
    exact bodyPost_ret (v := .tuple #[.agg #[.int .i64 e.who, .int .i64 e.seq, .int .i64 e.op.kind, .int .i64 e.op.id, .int .i64 e.op.up, .int .i64 e.op.at_, .string e.op.txt], .bool true]) (by simp [results, Tryd.results90, go_sem, d0, d1, d2, d3, d4, d5, d6]) rfl ⟨rfl, _, _, by
      repeat (first | (with_reducible exact P1) | refine Bx.other ?_ hne _), P4.given (Nat.le_refl _) _ _ _ _ _ _ _⟩
  · have hc2 : ¬ 1 = c := by omega
    obtain ⟨P1, P2, P3, P4⟩ := HP.out (some ⟨q, 7, none⟩) (c - 1)
    clear HP
    go_upto_region 5 with fail
    generalize w2.setCell ⟨B, 2, none⟩ (.slice (some ⟨q, 7, none⟩) 0 (c - 1)) = w3 at *
    clear x0 x1 x2 x3 f2
    have d0 := P2.cell 0 rfl
    have d1 := P2.cell 1 rfl
    have d2 := P2.cell 2 rfl
    have d3 := P2.cell 3 rfl
    have d4 := P2.cell 4 rfl
    have d5 := P2.cell 5 rfl
    have d6 := P2.cell 6 rfl
    have y0 := P2.frozen 0
    have y1 := P2.frozen 1
    have y2 := P2.frozen 2
    have y3 := P2.frozen 3
    have y4 := P2.frozen 4
    have y5 := P2.frozen 5
    have y6 := P2.frozen 6
    have e0 := P3.cell 0 rfl
    have e1 := P3.cell 1 rfl
    have e2 := P3.cell 2 rfl
    have e3 := P3.cell 3 rfl
    have e4 := P3.cell 4 rfl
    have e5 := P3.cell 5 rfl
    have e6 := P3.cell 6 rfl
    have hne : B ≠ w.heap.size := by omega
    clear P2 P3
    go_wp2
    exact bodyPost_ret (v := .tuple #[.agg #[.int .i64 e.who, .int .i64 e.seq, .int .i64 e.op.kind, .int .i64 e.op.id, .int .i64 e.op.up, .int .i64 e.op.at_, .string e.op.txt], .bool true]) (by simp [results, Tryd.results90, go_sem, d0, d1, d2, d3, d4, d5, d6]) rfl ⟨rfl, _, _, by
      repeat (first | (with_reducible exact P1) | refine Bx.other ?_ hne _), P4.given (Nat.le_refl _) _ _ _ _ _ _ _⟩
def RetHAdd (B : Nat) (sf : Int) (q : Value) (up : Bool) (es : List EntD) (e : EntD) (w : World) (r : Ending) (w' : World) : Prop :=
  r = .returned (.bool (addN es e == 1)) ∧ ∃ a c, Bx w' B 92 #[.slice a (addL es e).length c, .int .i64 sf, q, .bool up] ∧ GotE w.heap.size w' a (addL es e) ∧ But B w.heap.size w w'
set_option maxRecDepth 100000 in
set_option maxHeartbeats 2000000 in
theorem hadd_any (B g c : Nat) (q : Value) (sf : Int) (up : Bool) (es : List EntD) (e : EntD) (w : World) (h : Bx w B 92 #[.slice (some ⟨g, 0, none⟩) es.length c, .int .i64 sf, q, .bool up]) (hg : g < w.heap.size) (he : EntsAt w.heap.size w (some ⟨g, 0, none⟩) es) (hf : EntsFit es) (hef : EFit e) (ht : Tab w) :
    Calls Tryd.prog 91 #[.pointer (some ⟨B, 0, none⟩), .agg #[.int .i64 e.who, .int .i64 e.seq, .int .i64 e.op.kind, .int .i64 e.op.id, .int .i64 e.op.up, .int .i64 e.op.at_, .string e.op.txt]] w (RetHAdd B sf q up es e w) := by
  have hz := ht.pos
  have hlt := h.lt
  have X1 := h.alloc (.cells #[.int .i64 e.who, .int .i64 e.seq, .int .i64 e.op.kind, .int .i64 e.op.id, .int .i64 e.op.up, .int .i64 e.op.at_, .string e.op.txt] 52)
  have al := (Below.refl w.heap.size w).alloc (Nat.le_refl _) (.cells #[.int .i64 e.who, .int .i64 e.seq, .int .i64 e.op.kind, .int .i64 e.op.id, .int .i64 e.op.up, .int .i64 e.op.at_, .string e.op.txt] 52)
  have E1 := Bx.new w 52 #[.int .i64 e.who, .int .i64 e.seq, .int .i64 e.op.kind, .int .i64 e.op.id, .int .i64 e.op.up, .int .i64 e.op.at_, .string e.op.txt]
  have he1 := (he.below al).mono al.size
  clear h he
  go_enter Tryd.func91, Tryd.ntmps91
  go_upto_region 1 with fail
  generalize w.alloc (.cells #[.int .i64 e.who, .int .i64 e.seq, .int .i64 e.op.kind, .int .i64 e.op.id, .int .i64 e.op.up, .int .i64 e.op.at_, .string e.op.txt] 52) = w1 at *
  obtain ⟨x0, x1, x2, x3⟩ := X1.host
  have e0 := E1.cell 0 rfl
  have e1 := E1.cell 1 rfl
  have e2 := E1.cell 2 rfl
  have e3 := E1.cell 3 rfl
  have e4 := E1.cell 4 rfl
  have e5 := E1.cell 5 rfl
  have e6 := E1.cell 6 rfl
  have ald := al.drew
  have X1d := X1.drew
  have HLA := Lib.hid (implLogAdd_any g 0 c es e w1.drew (Nat.lt_of_lt_of_le hg ald.size) (by exact he1) hf hef (ht.below ald hz))
  have HF : Hid (∀ a c' w3, w3.ownsRow w1.drew.heap.size 52 7 (.slice a (addL es e).length c') (addL es e).length (cellsE (addL es e)) → Below w1.drew.heap.size w1.drew w3 → Bx w3 B 92 #[.slice (some ⟨g, 0, none⟩) es.length c, .int .i64 sf, q, .bool up] ∧ RetHAdd B sf q up es e w (.returned (.bool (addN es e == 1))) (w3.setCell ⟨B, 0, none⟩ (.slice a (addL es e).length c'))) := by
    intro a c' w3 own3 b3
    have X3 := X1d.below b3 X1d.lt
    have L3 := ald.trans (b3.mono ald.size)
    have hBs : B < w1.drew.heap.size := X1d.lt
    refine ⟨X3, rfl, a, c', X3.put 0 _, ?_, (But.of_below L3).setCell 0 _⟩
    exact ((gotE_own own3).put (B := B) (fun g' eq => by subst eq; have := (own_lt own3).1; omega) _).base ald.size
  clear X1 X1d E1 al ald he1
  go_wp2_with fail
  go_region_with (go_at_call 114; refine HLA.out.mono ?_; rintro _ w3 ⟨a3, c3, rfl, own3, b3⟩; obtain ⟨X3, R3⟩ := HF.out a3 c3 w3 own3 b3; obtain ⟨z0, z1, z2, z3⟩ := X3.host; have y0 := X3.frozen 0)
  all_goals
    clear own3 b3 HLA HF X3
    go_wp2
    go_ret
    exact R3
end Go.Proofs.YtoofdhooinaneaaDoor
/-
  Contract of the program's (*host).hear with one entry in the queue. Conditions: as the theorem says.
-/
namespace Go.Proofs.YtoofdhooinaneaaDoor
open Go.ChangeShapes Go.WideShapes Go.ChangeAt Go.RowKit Go.Joins

theorem GotE.ne {base B : Nat} {w : World} {a : Option Addr} {es : List EntD} (h : GotE base w a es) (hB : w.heap.size ≤ B) : es.length = 0 ∨ ∀ g, a = some ⟨g, 0, none⟩ → g ≠ B := by
  rcases h with h | ⟨g, C, e, hg, ho⟩
  · exact .inl h
  · refine .inr fun g' e' => ?_
    rw [e] at e'; cases e'
    have := ho.lt; omega
theorem GotE.put' {base B j : Nat} {w : World} {a : Option Addr} {es : List EntD} (h : GotE base w a es) (hne : es.length = 0 ∨ ∀ g, a = some ⟨g, 0, none⟩ → g ≠ B) (v : Value) : GotE base (w.setCell ⟨B, j, none⟩ v) a es := by
  rcases hne with h0 | hne
  · exact .inl h0
  · exact h.put hne v
theorem GotE.given {base r : Nat} {w' : World} {a : Option Addr} {es : List EntD} (h : GotE base w' a es) (hne : es.length = 0 ∨ ∀ g, a = some ⟨g, 0, none⟩ → g ≠ r) (v0 v1 v2 v3 v4 v5 v6 : Value) : GotE base (((((((w'.setCell ⟨r, 0, none⟩ v0).setCell ⟨r, 1, none⟩ v1).setCell ⟨r, 2, none⟩ v2).setCell ⟨r, 3, none⟩ v3).setCell ⟨r, 4, none⟩ v4).setCell ⟨r, 5, none⟩ v5).setCell ⟨r, 6, none⟩ v6) a es := (((((((h.put' hne v0).put' hne v1).put' hne v2).put' hne v3).put' hne v4).put' hne v5).put' hne v6)
theorem Bx.given {B r : Nat} {w' : World} {t : TypeId} {cs : Array Value} (h : Bx w' B t cs) (hne : B ≠ r) (v0 v1 v2 v3 v4 v5 v6 : Value) : Bx (((((((w'.setCell ⟨r, 0, none⟩ v0).setCell ⟨r, 1, none⟩ v1).setCell ⟨r, 2, none⟩ v2).setCell ⟨r, 3, none⟩ v3).setCell ⟨r, 4, none⟩ v4).setCell ⟨r, 5, none⟩ v5).setCell ⟨r, 6, none⟩ v6) B t cs := (((((((h.other hne v0).other hne v1).other hne v2).other hne v3).other hne v4).other hne v5).other hne v6)
theorem below_given {N r : Nat} {w w' : World} (h : Below N w w') (hr : N ≤ r) (v0 v1 v2 v3 v4 v5 v6 : Value) : Below N w (((((((w'.setCell ⟨r, 0, none⟩ v0).setCell ⟨r, 1, none⟩ v1).setCell ⟨r, 2, none⟩ v2).setCell ⟨r, 3, none⟩ v3).setCell ⟨r, 4, none⟩ v4).setCell ⟨r, 5, none⟩ v5).setCell ⟨r, 6, none⟩ v6) := (Below.setCell (Below.setCell (Below.setCell (Below.setCell (Below.setCell (Below.setCell (Below.setCell h (p := ⟨r, 0, none⟩) hr v0) (p := ⟨r, 1, none⟩) hr v1) (p := ⟨r, 2, none⟩) hr v2) (p := ⟨r, 3, none⟩) hr v3) (p := ⟨r, 4, none⟩) hr v4) (p := ⟨r, 5, none⟩) hr v5) (p := ⟨r, 6, none⟩) hr v6)
def hres (up : Bool) (es : List EntD) (e : EntD) : List EntD := if up then addL es e else es
def hcount (up : Bool) (es : List EntD) (e : EntD) : Int := if up && (addN es e == 1) then 1 else 0
/-- The host behind hearing. -/
def HB1 (base N B : Nat) (sf : Int) (up : Bool) (es : List EntD) (e : EntD) (w wr : World) : Prop :=
  ∃ a c a2 c2, Bx wr B 92 #[.slice a (hres up es e).length c, .int .i64 sf, .slice a2 0 c2, .bool up] ∧ GotE base wr a (hres up es e) ∧ Below N w wr
def RetHHear (base N B : Nat) (sf : Int) (up : Bool) (es : List EntD) (e : EntD) (w : World) (r : Ending) (w' : World) : Prop := r = .returned (.int .i64 (hcount up es e)) ∧ HB1 base N B sf up es e w w'
set_option maxRecDepth 100000 in
set_option maxHeartbeats 4000000 in
theorem hear_any (base N B g c q qc : Nat) (sf : Int) (up : Bool) (es : List EntD) (e : EntD) (w : World) (h : Bx w B 92 #[.slice (some ⟨g, 0, none⟩) es.length c, .int .i64 sf, .slice (some ⟨q, 0, none⟩) 1 qc, .bool up]) (hg : OwnG base w g c es) (he : EntsAt w.heap.size w (some ⟨q, 0, none⟩) [e]) (hc : 1 ≤ qc) (hcm : qc ≤ maxLen) (hf : EntsFit es) (hef : EFit e) (ht : Tab w) (hne : g ≠ B) (hNB : N ≤ B) (h0N : 0 < N) (hbase : base ≤ w.heap.size) :
    Calls Tryd.prog 60 #[.pointer (some ⟨B, 0, none⟩)] w (RetHHear base N B sf up es e w) := by
  have hlt := h.lt
  have hNw : N ≤ w.heap.size := by omega
  have HT1 := Lib.hid (take_one B q qc _ sf up e w h he hc hcm)
  clear h he hc hcm
  go_enter Tryd.func60, Tryd.ntmps60
  go_wp2_with fail
  refine HT1.out.mono ?_
  rintro _ w1 ⟨rfl, a1, c1, X1, hb1⟩
  clear HT1
  have L1 : Below N w w1 := hb1.below hNB hNw
  have G1 : GotE base w1 (some ⟨g, 0, none⟩) es := hg.got.but' hb1 (Nat.le_refl _) hne
  have hg1 : g < w1.heap.size := Nat.lt_of_lt_of_le hg.hi hb1.size
  have hb1s := hb1.size
  have T1 : Tab w1 := ht.below L1 h0N
  clear hb1 hg ht
  go_wp2_with fail
  go_loopw [3, 4, 5] (fun hd p ok wr => ∃ Be, p = .pointer (some ⟨Be, 0, none⟩) ∧ ((ok = .bool true ∧ hd = .int .i64 0 ∧ wr = w1.alloc (.cells #[.int .i64 e.who, .int .i64 e.seq, .int .i64 e.op.kind, .int .i64 e.op.id, .int .i64 e.op.up, .int .i64 e.op.at_, .string e.op.txt] 52) ∧ Be = w1.heap.size) ∨ (ok = .bool false ∧ hd = .int .i64 (hcount up es e) ∧ HB1 base N B sf up es e w wr))) (fun _ _ ok _ => match ok with | .bool true => 1 | _ => 0)
  case atStart => exact ⟨w1.heap.size, rfl, .inl ⟨rfl, rfl, rfl, rfl⟩⟩
  case round =>
    obtain ⟨Be, rfl, ⟨rfl, rfl, rfl, rfl⟩ | ⟨rfl, rfl, HB⟩⟩ := hrel
    · have X2 := X1.alloc (.cells #[.int .i64 e.who, .int .i64 e.seq, .int .i64 e.op.kind, .int .i64 e.op.id, .int .i64 e.op.up, .int .i64 e.op.at_, .string e.op.txt] 52)
      have E2 := Bx.new w1 52 #[.int .i64 e.who, .int .i64 e.seq, .int .i64 e.op.kind, .int .i64 e.op.id, .int .i64 e.op.up, .int .i64 e.op.at_, .string e.op.txt]
      have al := (Below.refl w1.heap.size w1).alloc (Nat.le_refl _) (.cells #[.int .i64 e.who, .int .i64 e.seq, .int .i64 e.op.kind, .int .i64 e.op.id, .int .i64 e.op.up, .int .i64 e.op.at_, .string e.op.txt] 52)
      have G2 := G1.below al (Nat.le_refl _)
      have L2 := L1.trans (al.mono (Nat.le_trans hNw L1.size))
      have hg2 := Nat.lt_of_lt_of_le hg1 al.size
      have T2 : Tab (w1.alloc (.cells #[.int .i64 e.who, .int .i64 e.seq, .int .i64 e.op.kind, .int .i64 e.op.id, .int .i64 e.op.up, .int .i64 e.op.at_, .string e.op.txt] 52)) := T1.below (al.mono (Nat.le_refl _)) (by omega)
      have hBe : B ≠ w1.heap.size := by have := X1.lt; omega
      clear X1 G1 L1 hg1 T1 al
      generalize w1.alloc (.cells #[.int .i64 e.who, .int .i64 e.seq, .int .i64 e.op.kind, .int .i64 e.op.id, .int .i64 e.op.up, .int .i64 e.op.at_, .string e.op.txt] 52) = w2 at *
      generalize w1.heap.size = Be at *
      cases up
      · obtain ⟨x0, x1, x2, x3⟩ := X2.host
        have X3 := X2.drew
        have E3 := E2.drew
        have G3 : GotE base w2.drew (some ⟨g, 0, none⟩) (hres false es e) := G2.below (B := w2.heap.size) ((Below.refl _ _).drew) (Nat.le_refl _)
        have L3 := L2.drew
        clear X2 E2 G2 L2
        go_wp2_with fail
        go_region
        all_goals
          generalize w2.drew = w3 at *
          have e0 := E3.cell 0 rfl
          have e1 := E3.cell 1 rfl
          have e2 := E3.cell 2 rfl
          have e3 := E3.cell 3 rfl
          have e4 := E3.cell 4 rfl
          have e5 := E3.cell 5 rfl
          have e6 := E3.cell 6 rfl
          have X4 := X3.alloc (.cells #[.int .i64 e.who, .int .i64 e.seq, .int .i64 e.op.kind, .int .i64 e.op.id, .int .i64 e.op.up, .int .i64 e.op.at_, .string e.op.txt] 52)
          have Y4 := Bx.new w3 52 #[.int .i64 e.who, .int .i64 e.seq, .int .i64 e.op.kind, .int .i64 e.op.id, .int .i64 e.op.up, .int .i64 e.op.at_, .string e.op.txt]
          have G4 := G3.below ((Below.refl w3.heap.size w3).alloc (Nat.le_refl _) (.cells #[.int .i64 e.who, .int .i64 e.seq, .int .i64 e.op.kind, .int .i64 e.op.id, .int .i64 e.op.up, .int .i64 e.op.at_, .string e.op.txt] 52)) (Nat.le_refl _)
          have N4 := G3.ne (Nat.le_refl _)
          have L4 := L3.alloc (Nat.le_trans hNw L3.size) (.cells #[.int .i64 e.who, .int .i64 e.seq, .int .i64 e.op.kind, .int .i64 e.op.id, .int .i64 e.op.up, .int .i64 e.op.at_, .string e.op.txt] 52)
          have hBn : B ≠ w3.heap.size := by have := X3.lt; omega
          have hNn : N ≤ w3.heap.size := Nat.le_trans hNw L3.size
          clear X3 E3 G3 L3
          go_upto_region 4 with fail
          generalize w3.alloc (.cells #[.int .i64 e.who, .int .i64 e.seq, .int .i64 e.op.kind, .int .i64 e.op.id, .int .i64 e.op.up, .int .i64 e.op.at_, .string e.op.txt] 52) = w4 at *
          generalize w3.heap.size = Bn at *
          clear e0 e1 e2 e3 e4 e5 e6
          go_wp2_with fail
          refine (take_none B _ _ _ sf false w4 X4).mono ?_
          rintro _ w5 ⟨rfl, hb5⟩
          have X5 := X4.below hb5 X4.lt
          have Y5 := Y4.below hb5 Y4.lt
          have G5 := G4.below hb5 (Nat.le_refl _)
          have L5 := L4.trans (hb5.mono (Nat.le_trans hNw L4.size))
          clear X4 Y4 G4 L4 hb5
          have d0 := Y5.cell 0 rfl
          have d1 := Y5.cell 1 rfl
          have d2 := Y5.cell 2 rfl
          have d3 := Y5.cell 3 rfl
          have d4 := Y5.cell 4 rfl
          have d5 := Y5.cell 5 rfl
          have d6 := Y5.cell 6 rfl
          have y0 := Y5.frozen 0
          have y1 := Y5.frozen 1
          have y2 := Y5.frozen 2
          have y3 := Y5.frozen 3
          have y4 := Y5.frozen 4
          have y5 := Y5.frozen 5
          have y6 := Y5.frozen 6
          have HF : Hid (HB1 base N B sf false es e w (((((((w5.setCell ⟨Bn, 0, none⟩ (.int .i64 0)).setCell ⟨Bn, 1, none⟩ (.int .i64 0)).setCell ⟨Bn, 2, none⟩ (.int .i64 0)).setCell ⟨Bn, 3, none⟩ (.int .i64 0)).setCell ⟨Bn, 4, none⟩ (.int .i64 0)).setCell ⟨Bn, 5, none⟩ (.int .i64 0)).setCell ⟨Bn, 6, none⟩ (.string ⟨#[]⟩))) := ⟨_, _, _, _, X5.given hBn _ _ _ _ _ _ _, G5.given N4 _ _ _ _ _ _ _, below_given L5 hNn _ _ _ _ _ _ _⟩
          clear X5 Y5 G5 L5
          go_wp2
          go_roundw
          case rel => exact ⟨Bn, rfl, .inr ⟨rfl, rfl, HF.out⟩⟩
          case measure => simp
      · have HADD := Lib.hid (hadd_any B g c (.slice a1 0 c1) sf true es e w2.drew X2.drew hg2 G2.ents hf hef T2)
        obtain ⟨x0, x1, x2, x3⟩ := X2.host
        have e0 := E2.cell 0 rfl
        have e1 := E2.cell 1 rfl
        have e2 := E2.cell 2 rfl
        have e3 := E2.cell 3 rfl
        have e4 := E2.cell 4 rfl
        have e5 := E2.cell 5 rfl
        have e6 := E2.cell 6 rfl
        have E2d := E2.drew
        have L2d := L2.drew
        have h2d : w2.drew.heap.size = w2.heap.size := rfl
        have hb2 : base ≤ w2.drew.heap.size := Nat.le_trans hbase L2d.size
        clear X2 G2 T2
        go_wp2_with fail
        go_region_with (go_at_call 91; refine HADD.out.mono ?_; rintro _ w3 ⟨rfl, a3, c3, X3, G3', hb3⟩)
        all_goals
          have E3 := E2d.but hb3 E2d.lt (fun q => hBe q.symm)
          have G3 : GotE base w3 a3 (hres true es e) := G3'.base hb2
          have L3 := L2d.trans (hb3.below hNB (Nat.le_trans hNw L2d.size))
          clear x0 x1 x2 x3 e0 e1 e2 e3 e4 e5 e6 E2d L2d E2 L2 HADD G3' hb3
          cases han : (addN es e == 1)
          · have HCN : Hid (hcount true es e = 0) := by unfold Hid hcount; rw [han]; rfl
            have e0 := E3.cell 0 rfl
            have e1 := E3.cell 1 rfl
            have e2 := E3.cell 2 rfl
            have e3 := E3.cell 3 rfl
            have e4 := E3.cell 4 rfl
            have e5 := E3.cell 5 rfl
            have e6 := E3.cell 6 rfl
            have X4 := X3.alloc (.cells #[.int .i64 e.who, .int .i64 e.seq, .int .i64 e.op.kind, .int .i64 e.op.id, .int .i64 e.op.up, .int .i64 e.op.at_, .string e.op.txt] 52)
            have Y4 := Bx.new w3 52 #[.int .i64 e.who, .int .i64 e.seq, .int .i64 e.op.kind, .int .i64 e.op.id, .int .i64 e.op.up, .int .i64 e.op.at_, .string e.op.txt]
            have G4 := G3.below ((Below.refl w3.heap.size w3).alloc (Nat.le_refl _) (.cells #[.int .i64 e.who, .int .i64 e.seq, .int .i64 e.op.kind, .int .i64 e.op.id, .int .i64 e.op.up, .int .i64 e.op.at_, .string e.op.txt] 52)) (Nat.le_refl _)
            have N4 := G3.ne (Nat.le_refl _)
            have L4 := L3.alloc (Nat.le_trans hNw L3.size) (.cells #[.int .i64 e.who, .int .i64 e.seq, .int .i64 e.op.kind, .int .i64 e.op.id, .int .i64 e.op.up, .int .i64 e.op.at_, .string e.op.txt] 52)
            have hBn : B ≠ w3.heap.size := by have := X3.lt; omega
            have hNn : N ≤ w3.heap.size := Nat.le_trans hNw L3.size
            clear X3 E3 G3 L3
            go_upto_region 4 with fail
            generalize w3.alloc (.cells #[.int .i64 e.who, .int .i64 e.seq, .int .i64 e.op.kind, .int .i64 e.op.id, .int .i64 e.op.up, .int .i64 e.op.at_, .string e.op.txt] 52) = w4 at *
            generalize w3.heap.size = Bn at *
            clear e0 e1 e2 e3 e4 e5 e6
            go_wp2_with fail
            refine (take_none B _ _ _ sf true w4 X4).mono ?_
            rintro _ w5 ⟨rfl, hb5⟩
            have X5 := X4.below hb5 X4.lt
            have Y5 := Y4.below hb5 Y4.lt
            have G5 := G4.below hb5 (Nat.le_refl _)
            have L5 := L4.trans (hb5.mono (Nat.le_trans hNw L4.size))
            clear X4 Y4 G4 L4 hb5
            have d0 := Y5.cell 0 rfl
            have d1 := Y5.cell 1 rfl
            have d2 := Y5.cell 2 rfl
            have d3 := Y5.cell 3 rfl
            have d4 := Y5.cell 4 rfl
            have d5 := Y5.cell 5 rfl
            have d6 := Y5.cell 6 rfl
            have y0 := Y5.frozen 0
            have y1 := Y5.frozen 1
            have y2 := Y5.frozen 2
            have y3 := Y5.frozen 3
            have y4 := Y5.frozen 4
            have y5 := Y5.frozen 5
            have y6 := Y5.frozen 6
            have HF : Hid (HB1 base N B sf true es e w (((((((w5.setCell ⟨Bn, 0, none⟩ (.int .i64 0)).setCell ⟨Bn, 1, none⟩ (.int .i64 0)).setCell ⟨Bn, 2, none⟩ (.int .i64 0)).setCell ⟨Bn, 3, none⟩ (.int .i64 0)).setCell ⟨Bn, 4, none⟩ (.int .i64 0)).setCell ⟨Bn, 5, none⟩ (.int .i64 0)).setCell ⟨Bn, 6, none⟩ (.string ⟨#[]⟩))) := ⟨_, _, _, _, X5.given hBn _ _ _ _ _ _ _, G5.given N4 _ _ _ _ _ _ _, below_given L5 hNn _ _ _ _ _ _ _⟩
            clear X5 Y5 G5 L5
            go_wp2
            go_roundw
            case rel => exact ⟨Bn, rfl, .inr ⟨rfl, by rw [HCN.out], HF.out⟩⟩
            case measure => simp
          · have HCN : Hid (hcount true es e = 1) := by unfold Hid hcount; rw [han]; rfl
            have e0 := E3.cell 0 rfl
            have e1 := E3.cell 1 rfl
            have e2 := E3.cell 2 rfl
            have e3 := E3.cell 3 rfl
            have e4 := E3.cell 4 rfl
            have e5 := E3.cell 5 rfl
            have e6 := E3.cell 6 rfl
            have X4 := X3.alloc (.cells #[.int .i64 e.who, .int .i64 e.seq, .int .i64 e.op.kind, .int .i64 e.op.id, .int .i64 e.op.up, .int .i64 e.op.at_, .string e.op.txt] 52)
            have Y4 := Bx.new w3 52 #[.int .i64 e.who, .int .i64 e.seq, .int .i64 e.op.kind, .int .i64 e.op.id, .int .i64 e.op.up, .int .i64 e.op.at_, .string e.op.txt]
            have G4 := G3.below ((Below.refl w3.heap.size w3).alloc (Nat.le_refl _) (.cells #[.int .i64 e.who, .int .i64 e.seq, .int .i64 e.op.kind, .int .i64 e.op.id, .int .i64 e.op.up, .int .i64 e.op.at_, .string e.op.txt] 52)) (Nat.le_refl _)
            have N4 := G3.ne (Nat.le_refl _)
            have L4 := L3.alloc (Nat.le_trans hNw L3.size) (.cells #[.int .i64 e.who, .int .i64 e.seq, .int .i64 e.op.kind, .int .i64 e.op.id, .int .i64 e.op.up, .int .i64 e.op.at_, .string e.op.txt] 52)
            have hBn : B ≠ w3.heap.size := by have := X3.lt; omega
            have hNn : N ≤ w3.heap.size := Nat.le_trans hNw L3.size
            clear X3 E3 G3 L3
            go_upto_region 4 with fail
            generalize w3.alloc (.cells #[.int .i64 e.who, .int .i64 e.seq, .int .i64 e.op.kind, .int .i64 e.op.id, .int .i64 e.op.up, .int .i64 e.op.at_, .string e.op.txt] 52) = w4 at *
            generalize w3.heap.size = Bn at *
            clear e0 e1 e2 e3 e4 e5 e6
            go_wp2_with fail
            refine (take_none B _ _ _ sf true w4 X4).mono ?_
            rintro _ w5 ⟨rfl, hb5⟩
            have X5 := X4.below hb5 X4.lt
            have Y5 := Y4.below hb5 Y4.lt
            have G5 := G4.below hb5 (Nat.le_refl _)
            have L5 := L4.trans (hb5.mono (Nat.le_trans hNw L4.size))
            clear X4 Y4 G4 L4 hb5
            have d0 := Y5.cell 0 rfl
            have d1 := Y5.cell 1 rfl
            have d2 := Y5.cell 2 rfl
            have d3 := Y5.cell 3 rfl
            have d4 := Y5.cell 4 rfl
            have d5 := Y5.cell 5 rfl
            have d6 := Y5.cell 6 rfl
            have y0 := Y5.frozen 0
            have y1 := Y5.frozen 1
            have y2 := Y5.frozen 2
            have y3 := Y5.frozen 3
            have y4 := Y5.frozen 4
            have y5 := Y5.frozen 5
            have y6 := Y5.frozen 6
            have HF : Hid (HB1 base N B sf true es e w (((((((w5.setCell ⟨Bn, 0, none⟩ (.int .i64 0)).setCell ⟨Bn, 1, none⟩ (.int .i64 0)).setCell ⟨Bn, 2, none⟩ (.int .i64 0)).setCell ⟨Bn, 3, none⟩ (.int .i64 0)).setCell ⟨Bn, 4, none⟩ (.int .i64 0)).setCell ⟨Bn, 5, none⟩ (.int .i64 0)).setCell ⟨Bn, 6, none⟩ (.string ⟨#[]⟩))) := ⟨_, _, _, _, X5.given hBn _ _ _ _ _ _ _, G5.given N4 _ _ _ _ _ _ _, below_given L5 hNn _ _ _ _ _ _ _⟩
            clear X5 Y5 G5 L5
            go_wp2
            go_roundw
            case rel => exact ⟨Bn, rfl, .inr ⟨rfl, by rw [HCN.out], HF.out⟩⟩
            case measure => simp
    · go_wp2
      go_ret
      exact ⟨rfl, HB⟩
end Go.Proofs.YtoofdhooinaneaaDoor
