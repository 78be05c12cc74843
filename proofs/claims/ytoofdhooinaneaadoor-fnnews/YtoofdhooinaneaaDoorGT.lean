/-
  Joined texts, each with its own head: what it holds, and its conditions.
-/
import Derived.Test.YtoofdhooinaneaaDoorGS

/-
  Contracts of the model's functions of servers: ServerOk, l13Copy, l13Fall, ServerSync, ServerFall, ServerNews. Conditions: as each theorem says.
-/
namespace Go.Proofs.YtoofdhooinaneaaDoor
open Go.ChangeShapes Go.WideShapes Go.ChangeAt Go.RowKit Go.Joins

theorem Bx.given3 {B r : Nat} {w' : World} {t : TypeId} {cs : Array Value} (h : Bx w' B t cs) (hne : B ≠ r) (v0 v1 v2 : Value) : Bx (((w'.setCell ⟨r, 0, none⟩ v0).setCell ⟨r, 1, none⟩ v1).setCell ⟨r, 2, none⟩ v2) B t cs := (((h.other hne v0).other hne v1).other hne v2)
theorem below_given3 {N r : Nat} {w w' : World} (h : Below N w w') (hr : N ≤ r) (v0 v1 v2 : Value) : Below N w (((w'.setCell ⟨r, 0, none⟩ v0).setCell ⟨r, 1, none⟩ v1).setCell ⟨r, 2, none⟩ v2) := (Below.setCell (Below.setCell (Below.setCell h (p := ⟨r, 0, none⟩) hr v0) (p := ⟨r, 1, none⟩) hr v1) (p := ⟨r, 2, none⟩) hr v2)
theorem OwnG.given3 {base r g c : Nat} {w' : World} {es : List EntD} (h : OwnG base w' g c es) (hne : g ≠ r) (v0 v1 v2 : Value) : OwnG base (((w'.setCell ⟨r, 0, none⟩ v0).setCell ⟨r, 1, none⟩ v1).setCell ⟨r, 2, none⟩ v2) g c es := (((h.put hne v0).put hne v1).put hne v2)
/-- What a server's function gives: the server, its log in memory of the call's own; if it is valid, the log is not nil. -/
def RetSv (s : SrvD) (ok : Bool) (w : World) (r : Ending) (w' : World) : Prop :=
  ∃ a c, r = .returned (.agg #[.slice a s.log.length c, .int .i64 s.safe, .bool s.up]) ∧ GotE w.heap.size w' a s.log ∧ (ok = true → ∃ g, a = some ⟨g, 0, none⟩ ∧ OwnG w.heap.size w' g c s.log) ∧ Below w.heap.size w w'
def RetSvB (s : SrvD) (ok told : Bool) (w : World) (r : Ending) (w' : World) : Prop :=
  ∃ a c, r = .returned (.tuple #[.agg #[.slice a s.log.length c, .int .i64 s.safe, .bool s.up], .bool told]) ∧ GotE w.heap.size w' a s.log ∧ (ok = true → ∃ g, a = some ⟨g, 0, none⟩ ∧ OwnG w.heap.size w' g c s.log) ∧ Below w.heap.size w w'
/-- A server whose log is not nil, given back in the result's box. -/
theorem retSrv_put {w w3 : World} {s : SrvD} {ok : Bool} {g c r base : Nat} (hg : OwnG base w3 g c s.log) (hbase : w.heap.size ≤ base) (hr : w.heap.size ≤ r) (hne : g ≠ r) (hL : Below w.heap.size w w3) (v0 v1 v2 : Value) : RetSv s ok w (.returned (.agg #[.slice (some ⟨g, 0, none⟩) s.log.length c, .int .i64 s.safe, .bool s.up])) (((w3.setCell ⟨r, 0, none⟩ v0).setCell ⟨r, 1, none⟩ v1).setCell ⟨r, 2, none⟩ v2) :=
  ⟨_, _, rfl, ((hg.mono hbase).given3 hne v0 v1 v2).got, fun _ => ⟨g, rfl, (hg.mono hbase).given3 hne v0 v1 v2⟩, below_given3 hL hr v0 v1 v2⟩
theorem retSrvB_put {w w3 : World} {s : SrvD} {ok told : Bool} {g c r base : Nat} (hg : OwnG base w3 g c s.log) (hbase : w.heap.size ≤ base) (hr : w.heap.size ≤ r) (hne : g ≠ r) (hL : Below w.heap.size w w3) (v0 v1 v2 : Value) : RetSvB s ok told w (.returned (.tuple #[.agg #[.slice (some ⟨g, 0, none⟩) s.log.length c, .int .i64 s.safe, .bool s.up], .bool told])) (((w3.setCell ⟨r, 0, none⟩ v0).setCell ⟨r, 1, none⟩ v1).setCell ⟨r, 2, none⟩ v2) :=
  ⟨_, _, rfl, ((hg.mono hbase).given3 hne v0 v1 v2).got, fun _ => ⟨g, rfl, (hg.mono hbase).given3 hne v0 v1 v2⟩, below_given3 hL hr v0 v1 v2⟩
theorem retSrv_zero {w w3 : World} {s : SrvD} {ok : Bool} (hs : s = zsrv) (ho : ok = false) {r : Nat} (hr : w.heap.size ≤ r) (hL : Below w.heap.size w w3) (v0 v1 v2 : Value) : RetSv s ok w (.returned (.agg #[.slice none 0 0, .int .i64 0, .bool false])) (((w3.setCell ⟨r, 0, none⟩ v0).setCell ⟨r, 1, none⟩ v1).setCell ⟨r, 2, none⟩ v2) := by
  subst hs ho
  exact ⟨none, 0, rfl, .inl rfl, (fun h => by cases h), below_given3 hL hr v0 v1 v2⟩
theorem retSrvB_zero {w w3 : World} {s : SrvD} {ok told : Bool} (hs : s = zsrv ∧ told = false) (ho : ok = false) {r : Nat} (hr : w.heap.size ≤ r) (hL : Below w.heap.size w w3) (v0 v1 v2 : Value) : RetSvB s ok told w (.returned (.tuple #[.agg #[.slice none 0 0, .int .i64 0, .bool false], .bool false])) (((w3.setCell ⟨r, 0, none⟩ v0).setCell ⟨r, 1, none⟩ v1).setCell ⟨r, 2, none⟩ v2) := by
  obtain ⟨rfl, rfl⟩ := hs
  subst ho
  exact ⟨none, 0, rfl, .inl rfl, (fun h => by cases h), below_given3 hL hr v0 v1 v2⟩
theorem specServerOk_any (B : Nat) (a : Option Addr) (cap : Nat) (es : List EntD) (sf : Int) (up : Bool) (w : World) (hB : B ≤ w.heap.size) (h : EntsAt B w a es) (hf : EntsFit es) (hcap : es.length ≤ cap) (hcm : cap ≤ maxLen) :
    Calls Tryd.prog 26 #[.agg #[.slice a es.length cap, .int .i64 sf, .bool up]] w (RetBelow (.bool (srvB ⟨es, sf, up⟩)) w) := by
  have hb0 : Below w.heap.size w (w.alloc (.cells #[.slice a es.length cap, .int .i64 sf, .bool up] 43)) := (Below.refl _ _).alloc (Nat.le_refl _) _
  have X0 := Bx.new w 43 #[.slice a es.length cap, .int .i64 sf, .bool up]
  have HL := Lib.hid (specLogOk_any B a cap es _ (Nat.le_trans hB hb0.size) (h.below (hb0.mono hB)) hf hcap hcm)
  have HD : Hid (srvB ⟨es, sf, up⟩ = (logB es && inB sf 0 es.length)) := rfl
  have hl := hf.1
  generalize logB es = lb at *
  go_enter Tryd.func26, Tryd.ntmps26
  go_wp2_with fail
  refine HL.out.mono ?_
  rintro _ V ⟨rfl, hb1⟩
  have hV := hb0.trans (hb1.mono hb0.size)
  obtain ⟨x0, x1, x2⟩ := (X0.below hb1 X0.lt).srv
  clear X0 HL hb0 hb1
  cases lb
  · go_wp2
    go_ret
    exact ⟨by rw [HD.out]; rfl, hV⟩
  · go_wp2_with fail
    refine (l6In_any _ _ _ _).mono ?_
    rintro _ _ ⟨rfl, rfl⟩
    go_wp2
    go_ret
    exact ⟨by rw [HD.out]; rfl, hV⟩
set_option maxRecDepth 100000 in
set_option maxHeartbeats 2000000 in
theorem l13Copy_any (b off cap : Nat) (es : List EntD) (sf : Int) (up : Bool) (w : World) (hbb : b < w.heap.size) (h : EntsAt w.heap.size w (some ⟨b, off, none⟩) es) (hl : es.length ≤ 1048576) :
    Calls Tryd.prog 57 #[.agg #[.slice (some ⟨b, off, none⟩) es.length cap, .int .i64 sf, .bool up]] w (RetSv ⟨es, sf, up⟩ true w) := by
  obtain ⟨i0, hi, hz0, hz1, hz2⟩ := info_parts infoEnt
  have hb0 : Below w.heap.size w ((w.alloc (.cells #[.slice (some ⟨b, off, none⟩) es.length cap, .int .i64 sf, .bool up] 43)).alloc (.cells #[.slice none 0 0, .int .i64 0, .bool false] 43)) := ((Below.refl _ _).alloc (Nat.le_refl _) _).alloc (by simp) _
  have X0 := (Bx.new w 43 #[.slice (some ⟨b, off, none⟩) es.length cap, .int .i64 sf, .bool up]).alloc (.cells #[.slice none 0 0, .int .i64 0, .bool false] 43)
  have Y0 := Bx.new (w.alloc (.cells #[.slice (some ⟨b, off, none⟩) es.length cap, .int .i64 sf, .bool up] 43)) 43 #[.slice none 0 0, .int .i64 0, .bool false]
  have hs0 : (w.alloc (.cells #[.slice (some ⟨b, off, none⟩) es.length cap, .int .i64 sf, .bool up] 43)).heap.size = w.heap.size + 1 := by simp
  rw [hs0] at Y0
  have h0 := h.below hb0
  go_enter Tryd.func57, Tryd.ntmps57
  go_upto_region 1 with fail
  generalize ((w.alloc (.cells #[.slice (some ⟨b, off, none⟩) es.length cap, .int .i64 sf, .bool up] 43)).alloc (.cells #[.slice none 0 0, .int .i64 0, .bool false] 43)) = w1 at *
  clear hs0
  have hx0 := X0.lt
  have hy0 := Y0.lt
  obtain ⟨x0, x1, x2⟩ := X0.srv
  have hown0 := own_emptyE w1 52
  have HNW := Lib.hid h0.news
  have hbb1 := Nat.lt_of_lt_of_le hbb hb0.size
  go_wp2_with (at_builtin; refine wpList_append_own _ rfl _ _ 25 rfl w1.heap.size 52 i0 (.agg #[.int .i64 0, .int .i64 0, .int .i64 0, .int .i64 0, .int .i64 0, .int .i64 0, .string ⟨#[]⟩]) 7 64 Tryd.underlying25 hi hz0 hz1 hz2 rfl (by decide) _ _ _ rfl hown0 ⟨b, off, none⟩ es.length cap (cellsE es) rfl ?c0 ?c1 ?c2 ?c3 ?c4 ?c5 ?_)
  case c0 => rw [cellsE_len]
  case c1 => intro j u hu; first | (rw [World.cell?_alloc_lt _ _ _ (by rw [addr_add]; exact hbb1)]; exact HNW.out j u hu) | (have q := HNW.out j u hu; rw [addr_add] at q; exact q)
  case c2 => exact cellsE_plain _
  case c3 => unfold maxLen; omega
  case c4 => omega
  first | (case c5 => simp) | skip
  intro v3 w3 own3 grow3 hnn
  have hb3 : Below w1.heap.size w1 w3 := ((Below.refl _ w1).alloc (Nat.le_refl _) (.cells #[] 52)).grown grow3 (by simp) (own_blockE hown0)
  have own3' : w3.ownsRow w1.heap.size 52 7 v3 es.length (cellsE es) := by simpa using own3
  obtain ⟨a', c', rfl, _, _⟩ := own_valE own3'
  have hne : a' ≠ none := fun e => by
    subst e
    rcases own3'.2 with ⟨q, _⟩ | ⟨g', cap', cur, hv, _⟩
    · exact hnn q
    · cases hv
  obtain ⟨g, rfl⟩ := own_some own3' hne
  have G3 := ownG_of own3'
  have X3 := X0.below hb3 X0.lt
  have Y3 := Y0.below hb3 Y0.lt
  have L3 := hb0.trans (hb3.mono hb0.size)
  have hgn : w.heap.size + 1 < g := Nat.lt_of_lt_of_le Y0.lt G3.lo
  clear x0 x1 x2 X0 Y0 own3 own3' grow3 hnn hown0 HNW hi hz0 hz1 hz2
  obtain ⟨x0, x1, x2⟩ := X3.srv
  have f0 := X3.frozen 0
  have X4 := X3.put 0 (.slice (some ⟨g, 0, none⟩) es.length c')
  have Y4 := Y3.other (j := 0) (show w.heap.size + 1 ≠ w.heap.size by omega) (.slice (some ⟨g, 0, none⟩) es.length c')
  have G4 := G3.put (B := w.heap.size) (j := 0) (by omega) (.slice (some ⟨g, 0, none⟩) es.length c')
  have L4 := L3.setCell (p := ⟨w.heap.size, 0, none⟩) (Nat.le_refl _) (.slice (some ⟨g, 0, none⟩) es.length c')
  clear X3 Y3 G3 L3
  go_upto_region 2 with fail
  generalize w3.setCell ⟨w.heap.size, 0, none⟩ (.slice (some ⟨g, 0, none⟩) es.length c') = w4 at *
  clear x0 x1 x2 f0
  have X4' : Bx w4 w.heap.size 43 #[.slice (some ⟨g, 0, none⟩) es.length c', .int .i64 sf, .bool up] := X4
  obtain ⟨x0, x1, x2⟩ := X4'.srv
  have d0 := Y4.cell 0 rfl
  have d1 := Y4.cell 1 rfl
  have d2 := Y4.cell 2 rfl
  have y0 := Y4.frozen 0
  have y1 := Y4.frozen 1
  have y2 := Y4.frozen 2
  clear X4 X4' Y4
  go_wp2
  exact bodyPost_ret (v := .agg #[.slice (some ⟨g, 0, none⟩) es.length c', .int .i64 sf, .bool up]) (by simp [results, Tryd.results57, go_sem, d0, d1, d2]) rfl (retSrv_put (s := ⟨es, sf, up⟩) G4 hb0.size (by omega) (by omega) L4 _ _ _)
end Go.Proofs.YtoofdhooinaneaaDoor
/-
  Contracts of the model's l13Fall, ServerSync and ServerFall. Conditions: as each theorem says.
-/
namespace Go.Proofs.YtoofdhooinaneaaDoor
open Go.ChangeShapes Go.WideShapes Go.ChangeAt Go.RowKit Go.Joins

end Go.Proofs.YtoofdhooinaneaaDoor
/-
  Contracts of the model's ServerSync and ServerFall. Conditions: as each theorem says.
-/
namespace Go.Proofs.YtoofdhooinaneaaDoor
open Go.ChangeShapes Go.WideShapes Go.ChangeAt Go.RowKit Go.Joins

theorem fall_nat {es : List EntD} {s l : Nat} {up : Bool} (h : fallOk ⟨es, s, up⟩ l = true) : fallS ⟨es, s, up⟩ l = ⟨es.take (min es.length (s + l)), s, up⟩ := by
  rw [fall_yes h]
  have : fallE ⟨es, s, up⟩ l = min es.length (s + l) := by unfold fallE; simp only; omega
  rw [this]
end Go.Proofs.YtoofdhooinaneaaDoor
/-
  Contracts of the model's ServerNews, l13Hear and ServerHear. Conditions: as each theorem says.
-/
namespace Go.Proofs.YtoofdhooinaneaaDoor
open Go.ChangeShapes Go.WideShapes Go.ChangeAt Go.RowKit Go.Joins

/-- Entries that are given back, in memory of the call's own. -/
def RetNw (L : List EntD) (w : World) (r : Ending) (w' : World) : Prop := ∃ a c, r = .returned (.slice a L.length c) ∧ GotE w.heap.size w' a L ∧ Below w.heap.size w w'
/-- Where log[j:k] lies. -/
theorem part_off {B b off c j k : Nat} {w : World} {es : List EntD} (h : EntsAt B w (some ⟨b, off, none⟩) es) (hlen : es.length ≤ c) : ∃ o, (if c = j then some (⟨b, off, none⟩ : Addr) else some ⟨b, off + j * 7, none⟩) = some ⟨b, o, none⟩ ∧ EntsAt B w (some ⟨b, o, none⟩) ((es.drop j).take k) := by
  by_cases q : c = j
  · refine ⟨off, if_pos q, .inl ?_⟩
    rw [List.length_take, List.length_drop]; omega
  · exact ⟨off + j * 7, if_neg q, h.part j k⟩
theorem retNw_none {w V : World} {s : SrvD} {fr : Int} (hn : newsOk s fr = false) (hV : Below w.heap.size w V) {a : Option Addr} : RetNw (newsL s fr) w (.returned (.slice a 0 0)) V := by
  rw [news_no hn]; exact ⟨a, 0, rfl, .inl rfl, hV⟩
theorem news_nat {es : List EntD} {s f : Nat} {up : Bool} (h : newsOk ⟨es, s, up⟩ f = true) : newsL ⟨es, s, up⟩ f = (es.drop f).take (s - f) := by
  rw [news_yes h]; rfl
set_option maxRecDepth 100000 in
set_option maxHeartbeats 2000000 in
theorem specServerNews_any (b off cap : Nat) (es : List EntD) (sf : Int) (up : Bool) (fr : Int) (w : World) (hbb : b < w.heap.size) (h : EntsAt w.heap.size w (some ⟨b, off, none⟩) es) (hf : EntsFit es) (hcap : es.length ≤ cap) (hcm : cap ≤ maxLen) :
    Calls Tryd.prog 25 #[.agg #[.slice (some ⟨b, off, none⟩) es.length cap, .int .i64 sf, .bool up], .int .i64 fr] w (RetNw (newsL ⟨es, sf, up⟩ fr) w) := by
  obtain ⟨i0, hi, hz0, hz1, hz2⟩ := info_parts infoEnt
  have HOK : Hid (newsOk ⟨es, sf, up⟩ fr = (srvB ⟨es, sf, up⟩ && up && inB fr 0 sf)) := rfl
  have hb0 : Below w.heap.size w (w.alloc (.cells #[.slice (some ⟨b, off, none⟩) es.length cap, .int .i64 sf, .bool up] 43)) := (Below.refl _ _).alloc (Nat.le_refl _) _
  have X0 := Bx.new w 43 #[.slice (some ⟨b, off, none⟩) es.length cap, .int .i64 sf, .bool up]
  have h0 := h.below hb0
  go_enter Tryd.func25, Tryd.ntmps25
  go_upto_region 1 with fail
  generalize (w.alloc (.cells #[.slice (some ⟨b, off, none⟩) es.length cap, .int .i64 sf, .bool up] 43)) = w1 at *
  obtain ⟨x0, x1, x2⟩ := X0.srv
  go_wp2_with fail
  refine (specServerOk_any w.heap.size _ cap es sf up w1 hb0.size h0 hf hcap hcm).mono ?_
  rintro _ w2 ⟨rfl, b2⟩
  have X2 := X0.below b2 X0.lt
  have L2 := hb0.trans (b2.mono hb0.size)
  have La := L2.alloc L2.size (.cells #[] 52)
  clear X0 b2 x0 x1 x2
  generalize hsb : srvB ⟨es, sf, up⟩ = sb at *
  have HSB := Lib.hid hsb
  clear hsb
  obtain ⟨x0, x1, x2⟩ := X2.srv
  have hx2 := X2.lt
  cases sb
  · have HFO : Hid (newsOk ⟨es, sf, up⟩ fr = false) := by unfold Hid; rw [HOK.out]; rfl
    go_wp2
    go_ret
    exact retNw_none HFO.out La
  · cases up
    · have HFO : Hid (newsOk ⟨es, sf, false⟩ fr = false) := by unfold Hid; rw [HOK.out]; rfl
      go_wp2
      go_ret
      exact retNw_none HFO.out La
    · go_wp2_with fail
      refine (l6In_any _ _ _ _).mono ?_
      rintro _ _ ⟨rfl, rfl⟩
      generalize hin : inB fr 0 sf = lb at *
      have HIN := Lib.hid hin
      clear hin
      cases lb
      · have HFO : Hid (newsOk ⟨es, sf, true⟩ fr = false) := by unfold Hid; rw [HOK.out]; rfl
        go_wp2
        go_ret
        exact retNw_none HFO.out La
      · have HFO : Hid (newsOk ⟨es, sf, true⟩ fr = true) := by unfold Hid; rw [HOK.out]; rfl
        obtain ⟨hr1, hr2⟩ := (inB_iff _ _ _).1 HIN.out
        obtain ⟨_, hr3, hr4⟩ := srv_iff.1 HSB.out
        simp only [] at hr3 hr4
        obtain ⟨s, rfl⟩ := Int.eq_ofNat_of_zero_le hr3
        obtain ⟨f, rfl⟩ := Int.eq_ofNat_of_zero_le hr1
        have HF := Lib.hid (news_nat HFO.out)
        have hl := hf.1
        unfold maxLen at hcm
        obtain ⟨o, ho, hat⟩ := part_off (j := f) (k := s - f) (h.below L2) hcap
        have hle : ((es.drop f).take (s - f)).length = s - f := by rw [List.length_take, List.length_drop]; omega
        generalize (es.drop f).take (s - f) = L at *
        have HLE := Lib.hid hle
        clear hle
        have HNW := Lib.hid hat.news
        have hown0 := own_emptyE w2 52
        have hbb1 := Nat.lt_of_lt_of_le hbb L2.size
        have i3 : s ≤ cap := by omega
        have i4 : f ≤ s := by omega
        clear hat h0 X2
        go_wp2_with (at_builtin; refine wpList_append_own _ rfl _ _ 25 rfl w2.heap.size 52 i0 (.agg #[.int .i64 0, .int .i64 0, .int .i64 0, .int .i64 0, .int .i64 0, .int .i64 0, .string ⟨#[]⟩]) 7 64 Tryd.underlying25 hi hz0 hz1 hz2 rfl (by decide) _ _ _ rfl hown0 ⟨b, o, none⟩ (s - f) (cap - f) (cellsE L) rfl ?c0 ?c1 ?c2 ?c3 ?c4 ?c5 ?_)
        case c0 => rw [cellsE_len, HLE.out]
        case c1 => intro j u hu; first | (rw [World.cell?_alloc_lt _ _ _ (by rw [addr_add]; exact hbb1)]; exact HNW.out j u hu) | (have q := HNW.out j u hu; rw [addr_add] at q; exact q)
        case c2 => exact cellsE_plain _
        case c3 => unfold maxLen; omega
        case c4 => omega
        first | (case c5 => simp) | skip
        intro v3 w3 own3 grow3 hnn
        have hb3 : Below w2.heap.size w2 w3 := ((Below.refl _ w2).alloc (Nat.le_refl _) (.cells #[] 52)).grown grow3 (by simp) (own_blockE hown0)
        have own3' : w3.ownsRow w2.heap.size 52 7 v3 L.length (cellsE L) := by rw [HLE.out]; simpa using own3
        obtain ⟨a', c', rfl, _, _⟩ := own_valE own3'
        have L3 := L2.trans (hb3.mono L2.size)
        have HFF : Hid (RetNw (newsL ⟨es, s, true⟩ f) w (.returned (.slice a' L.length c')) w3) := by unfold Hid; rw [HF.out]; exact ⟨a', c', rfl, (gotE_own own3').base L2.size, L3⟩
        clear own3 own3' grow3 hnn hown0 HNW hi hz0 hz1 hz2 HF
        go_wp2
        go_ret
        exact HFF.out
def newB (up : Bool) (es : List EntD) (e : EntD) : Bool := up && (!(hasE es e) && nextB es e)
/-- What l13Hear gives. -/
def RetL13 (g c : Nat) (es : List EntD) (sf : Int) (up : Bool) (e : EntD) (w : World) (r : Ending) (w' : World) : Prop :=
  Below w.heap.size w w' ∧ ((newB up es e = true ∧ ∃ a c', r = .returned (.tuple #[.agg #[.slice a (es.length + 1) c', .int .i64 sf, .bool up], .bool true]) ∧ GotE w.heap.size w' a (es ++ [e]) ∧ ∃ g', a = some ⟨g', 0, none⟩ ∧ OwnG w.heap.size w' g' c' (es ++ [e])) ∨ (newB up es e = false ∧ r = .returned (.tuple #[.agg #[.slice (some ⟨g, 0, none⟩) es.length c, .int .i64 sf, .bool up], .bool false])))
set_option maxRecDepth 100000 in
set_option maxHeartbeats 2000000 in
theorem l13Hear_any (g c : Nat) (es : List EntD) (sf : Int) (up : Bool) (e : EntD) (w : World) (hg : g < w.heap.size) (h : EntsAt w.heap.size w (some ⟨g, 0, none⟩) es) (hl : es.length ≤ 1048576) :
    Calls Tryd.prog 56 #[.agg #[.slice (some ⟨g, 0, none⟩) es.length c, .int .i64 sf, .bool up], .agg #[.int .i64 e.who, .int .i64 e.seq, .int .i64 e.op.kind, .int .i64 e.op.id, .int .i64 e.op.up, .int .i64 e.op.at_, .string e.op.txt]] w (RetL13 g c es sf up e w) := by
  have hb0 : Below w.heap.size w (((w.alloc (.cells #[.slice (some ⟨g, 0, none⟩) es.length c, .int .i64 sf, .bool up] 43)).alloc (.cells #[.int .i64 e.who, .int .i64 e.seq, .int .i64 e.op.kind, .int .i64 e.op.id, .int .i64 e.op.up, .int .i64 e.op.at_, .string e.op.txt] 52)).alloc (.cells #[.slice none 0 0, .int .i64 0, .bool false] 43)) := (((Below.refl _ _).alloc (Nat.le_refl _) _).alloc (by simp) _).alloc (by simp; omega) _
  have X0 := ((Bx.new w 43 #[.slice (some ⟨g, 0, none⟩) es.length c, .int .i64 sf, .bool up]).alloc (.cells #[.int .i64 e.who, .int .i64 e.seq, .int .i64 e.op.kind, .int .i64 e.op.id, .int .i64 e.op.up, .int .i64 e.op.at_, .string e.op.txt] 52)).alloc (.cells #[.slice none 0 0, .int .i64 0, .bool false] 43)
  have E0 := (Bx.new (w.alloc (.cells #[.slice (some ⟨g, 0, none⟩) es.length c, .int .i64 sf, .bool up] 43)) 52 #[.int .i64 e.who, .int .i64 e.seq, .int .i64 e.op.kind, .int .i64 e.op.id, .int .i64 e.op.up, .int .i64 e.op.at_, .string e.op.txt]).alloc (.cells #[.slice none 0 0, .int .i64 0, .bool false] 43)
  have Y0 := Bx.new ((w.alloc (.cells #[.slice (some ⟨g, 0, none⟩) es.length c, .int .i64 sf, .bool up] 43)).alloc (.cells #[.int .i64 e.who, .int .i64 e.seq, .int .i64 e.op.kind, .int .i64 e.op.id, .int .i64 e.op.up, .int .i64 e.op.at_, .string e.op.txt] 52)) 43 #[.slice none 0 0, .int .i64 0, .bool false]
  have hs1 : (w.alloc (.cells #[.slice (some ⟨g, 0, none⟩) es.length c, .int .i64 sf, .bool up] 43)).heap.size = w.heap.size + 1 := by simp
  have hs2 : ((w.alloc (.cells #[.slice (some ⟨g, 0, none⟩) es.length c, .int .i64 sf, .bool up] 43)).alloc (.cells #[.int .i64 e.who, .int .i64 e.seq, .int .i64 e.op.kind, .int .i64 e.op.id, .int .i64 e.op.up, .int .i64 e.op.at_, .string e.op.txt] 52)).heap.size = w.heap.size + 1 + 1 := by simp
  rw [hs1] at E0
  rw [hs2] at Y0
  have h0 := (h.below hb0).mono hb0.size
  clear hs1 hs2
  go_enter Tryd.func56, Tryd.ntmps56
  go_upto_region 1 with fail
  generalize (((w.alloc (.cells #[.slice (some ⟨g, 0, none⟩) es.length c, .int .i64 sf, .bool up] 43)).alloc (.cells #[.int .i64 e.who, .int .i64 e.seq, .int .i64 e.op.kind, .int .i64 e.op.id, .int .i64 e.op.up, .int .i64 e.op.at_, .string e.op.txt] 52)).alloc (.cells #[.slice none 0 0, .int .i64 0, .bool false] 43)) = w1 at *
  obtain ⟨x0, x1, x2⟩ := X0.srv
  have e0 := E0.cell 0 rfl
  have e1 := E0.cell 1 rfl
  have e2 := E0.cell 2 rfl
  have e3 := E0.cell 3 rfl
  have e4 := E0.cell 4 rfl
  have e5 := E0.cell 5 rfl
  have e6 := E0.cell 6 rfl
  go_wp2_with fail
  refine (l12Add_any g 0 c es e w1 (Nat.lt_of_lt_of_le hg hb0.size) h0 hl).mono ?_
  rintro _ w2 ⟨b2, h2⟩
  have X2 := X0.below b2 X0.lt
  have Y2 := Y0.below b2 Y0.lt
  have L2 := hb0.trans (b2.mono hb0.size)
  have hy1w : w.heap.size + 1 + 1 < w1.heap.size := Y0.lt
  clear X0 E0 Y0 x0 x1 x2 e0 e1 e2 e3 e4 e5 e6 b2
  obtain ⟨x0, x1, x2⟩ := X2.srv
  have d0 := Y2.cell 0 rfl
  have d1 := Y2.cell 1 rfl
  have d2 := Y2.cell 2 rfl
  have y0 := Y2.frozen 0
  have y1 := Y2.frozen 1
  have y2 := Y2.frozen 2
  rcases h2 with ⟨hh, rfl⟩ | ⟨hh, hn, rfl⟩ | ⟨hh, hn, a3, c3, rfl, own3⟩
  · have HNB : Hid (newB up es e = false) := by unfold Hid newB; rw [hh]; simp
    clear X2 Y2 hh
    cases up
    · go_wp2
      exact bodyPost_ret (v := .tuple #[.agg #[.slice (some ⟨g, 0, none⟩) es.length c, .int .i64 sf, .bool false], .bool false]) (by simp [results, Tryd.results56, go_sem, d0, d1, d2]) rfl ⟨below_given3 L2 (by omega) _ _ _, .inr ⟨HNB.out, rfl⟩⟩
    · go_wp2
      exact bodyPost_ret (v := .tuple #[.agg #[.slice (some ⟨g, 0, none⟩) es.length c, .int .i64 sf, .bool true], .bool false]) (by simp [results, Tryd.results56, go_sem, d0, d1, d2]) rfl ⟨below_given3 L2 (by omega) _ _ _, .inr ⟨HNB.out, rfl⟩⟩
  · have HNB : Hid (newB up es e = false) := by unfold Hid newB; rw [hn]; simp
    clear X2 Y2 hh hn
    cases up
    · go_wp2
      exact bodyPost_ret (v := .tuple #[.agg #[.slice (some ⟨g, 0, none⟩) es.length c, .int .i64 sf, .bool false], .bool false]) (by simp [results, Tryd.results56, go_sem, d0, d1, d2]) rfl ⟨below_given3 L2 (by omega) _ _ _, .inr ⟨HNB.out, rfl⟩⟩
    · go_wp2
      exact bodyPost_ret (v := .tuple #[.agg #[.slice (some ⟨g, 0, none⟩) es.length c, .int .i64 sf, .bool true], .bool false]) (by simp [results, Tryd.results56, go_sem, d0, d1, d2]) rfl ⟨below_given3 L2 (by omega) _ _ _, .inr ⟨HNB.out, rfl⟩⟩
  · cases up
    · have HNB : Hid (newB false es e = false) := rfl
      clear X2 Y2 hh hn own3
      go_wp2
      exact bodyPost_ret (v := .tuple #[.agg #[.slice (some ⟨g, 0, none⟩) es.length c, .int .i64 sf, .bool false], .bool false]) (by simp [results, Tryd.results56, go_sem, d0, d1, d2]) rfl ⟨below_given3 L2 (by omega) _ _ _, .inr ⟨HNB.out, rfl⟩⟩
    · have HNB : Hid (newB true es e = true) := by unfold Hid newB; rw [hh, hn]; rfl
      have own3' : w2.ownsRow w1.heap.size 52 7 (.slice a3 (es ++ [e]).length c3) (es ++ [e]).length (cellsE (es ++ [e])) := by
        rw [List.length_append, List.length_singleton]; exact own3
      have O3 : ∃ g', a3 = some ⟨g', 0, none⟩ := by
        obtain ⟨g', _, hv, _⟩ := own_form own3 (by omega)
        cases hv; exact ⟨g', rfl⟩
      obtain ⟨g', rfl⟩ := O3
      have O3 := ownG_of own3'
      have hgr : w.heap.size + 1 + 1 < g' := Nat.lt_of_lt_of_le hy1w O3.lo
      have f0 := X2.frozen 0
      have X3 : Bx (w2.setCell ⟨w.heap.size, 0, none⟩ (.slice (some ⟨g', 0, none⟩) (es.length + 1) c3)) w.heap.size 43 #[.slice (some ⟨g', 0, none⟩) (es.length + 1) c3, .int .i64 sf, .bool true] := X2.put 0 _
      have Y3 := Y2.other (j := 0) (show w.heap.size + 1 + 1 ≠ w.heap.size by omega) (.slice (some ⟨g', 0, none⟩) (es.length + 1) c3)
      have O4 := O3.put (B := w.heap.size) (j := 0) (by omega) (.slice (some ⟨g', 0, none⟩) (es.length + 1) c3)
      have L3 := L2.setCell (p := ⟨w.heap.size, 0, none⟩) (Nat.le_refl _) (.slice (some ⟨g', 0, none⟩) (es.length + 1) c3)
      clear X2 Y2 own3 own3' hh hn O3 d0 d1 d2 y0 y1 y2
      go_upto_region 5 with fail
      generalize w2.setCell ⟨w.heap.size, 0, none⟩ (.slice (some ⟨g', 0, none⟩) (es.length + 1) c3) = w3 at *
      clear x0 x1 x2 f0
      obtain ⟨x0, x1, x2⟩ := X3.srv
      have d0 := Y3.cell 0 rfl
      have d1 := Y3.cell 1 rfl
      have d2 := Y3.cell 2 rfl
      have y0 := Y3.frozen 0
      have y1 := Y3.frozen 1
      have y2 := Y3.frozen 2
      have O5 : ∀ v0 v1 v2, OwnG w.heap.size (((w3.setCell ⟨w.heap.size + 1 + 1, 0, none⟩ v0).setCell ⟨w.heap.size + 1 + 1, 1, none⟩ v1).setCell ⟨w.heap.size + 1 + 1, 2, none⟩ v2) g' c3 (es ++ [e]) := fun v0 v1 v2 => (O4.mono hb0.size).given3 (by omega) v0 v1 v2
      clear X3 Y3 O4
      go_wp2
      exact bodyPost_ret (v := .tuple #[.agg #[.slice (some ⟨g', 0, none⟩) (es.length + 1) c3, .int .i64 sf, .bool true], .bool true]) (by simp [results, Tryd.results56, go_sem, d0, d1, d2]) rfl ⟨below_given3 L3 (by omega) _ _ _, .inl ⟨HNB.out, _, _, rfl, (O5 _ _ _).got, g', rfl, O5 _ _ _⟩⟩
end Go.Proofs.YtoofdhooinaneaaDoor
/-
  Contract of the model's ServerHear. Conditions: as each theorem says.
-/
namespace Go.Proofs.YtoofdhooinaneaaDoor
open Go.ChangeShapes Go.WideShapes Go.ChangeAt Go.RowKit Go.Joins

/-- The log behind hearing. -/
def hL (up : Bool) (es : List EntD) (e : EntD) : List EntD := if newB up es e then es ++ [e] else es
theorem newB_add {up : Bool} {es : List EntD} {e : EntD} (h : okAdd es e = true) : newB up es e = (up && (addN es e == 1)) := by
  unfold newB
  cases h1 : hasE es e
  · cases h2 : nextB es e
    · rw [(add_gap h h1 h2).2]; cases up <;> rfl
    · rw [(add_new h h1 h2).2]; cases up <;> rfl
  · rw [(add_has h h1).2]; cases up <;> rfl
theorem hear_new {es : List EntD} {sf : Int} {up : Bool} {e : EntD} (h : hearOk ⟨es, sf, up⟩ e = true) : hearS ⟨es, sf, up⟩ e = ⟨hL up es e, sf, up⟩ ∧ hearB ⟨es, sf, up⟩ e = newB up es e := by
  have h1 := newB_add (up := up) (hearOk_add h)
  simp only [] at h1
  cases h2 : newB up es e
  · rw [h2] at h1
    have := hear_same h h1.symm
    rw [this.1, this.2]
    simp [hL, h2]
  · rw [h2] at h1
    have h3 := h1.symm
    simp only [Bool.and_eq_true, beq_iff_eq] at h3
    have := hear_yes h h3.1 h3.2
    rw [this.1, this.2]
    simp [hL, h2]
theorem hL_len (up : Bool) (es : List EntD) (e : EntD) : (hL up es e).length ≤ es.length + 1 := by
  unfold hL; split
  · simp
  · omega
/-- What ServerHear gives. -/
def RetHr (s : SrvD) (told : Bool) (w : World) (r : Ending) (w' : World) : Prop :=
  ∃ a c, r = .returned (.tuple #[.agg #[.slice a s.log.length c, .int .i64 s.safe, .bool s.up], .bool told]) ∧ GotE w.heap.size w' a s.log ∧ Below w.heap.size w w'
theorem retHr_zero {w w3 : World} {s : SrvD} {e : EntD} (h : hearOk s e = false) {r : Nat} (hr : w.heap.size ≤ r) (hL : Below w.heap.size w w3) (v0 v1 v2 : Value) : RetHr (hearS s e) (hearB s e) w (.returned (.tuple #[.agg #[.slice none 0 0, .int .i64 0, .bool false], .bool false])) (((w3.setCell ⟨r, 0, none⟩ v0).setCell ⟨r, 1, none⟩ v1).setCell ⟨r, 2, none⟩ v2) := by
  rw [(hear_no h).1, (hear_no h).2]
  exact ⟨none, 0, rfl, .inl rfl, below_given3 hL hr v0 v1 v2⟩
def RetL1 (base : Nat) (es : List EntD) (sf : Int) (up : Bool) (e : EntD) (w : World) (r : Ending) (w' : World) : Prop :=
  ∃ g' c', r = .returned (.tuple #[.agg #[.slice (some ⟨g', 0, none⟩) (hL up es e).length c', .int .i64 sf, .bool up], .bool (newB up es e)]) ∧ OwnG base w' g' c' (hL up es e) ∧ Below w.heap.size w w'
theorem l13Hear_one (base g c : Nat) (es : List EntD) (sf : Int) (up : Bool) (e : EntD) (w : World) (hO : OwnG base w g c es) (hb : base ≤ w.heap.size) (hl : es.length ≤ 1048576) :
    Calls Tryd.prog 56 #[.agg #[.slice (some ⟨g, 0, none⟩) es.length c, .int .i64 sf, .bool up], .agg #[.int .i64 e.who, .int .i64 e.seq, .int .i64 e.op.kind, .int .i64 e.op.id, .int .i64 e.op.up, .int .i64 e.op.at_, .string e.op.txt]] w (RetL1 base es sf up e w) := by
  refine (l13Hear_any g c es sf up e w hO.hi hO.ents hl).mono ?_
  rintro r w' ⟨hb', ⟨hn, a, c', rfl, _, g', rfl, O'⟩ | ⟨hn, rfl⟩⟩
  · refine ⟨g', c', ?_, ?_, hb'⟩
    · rw [hn]; unfold hL; rw [hn]; simp
    · unfold hL; rw [hn]; exact O'.mono hb
  · refine ⟨g, c, ?_, ?_, hb'⟩
    · rw [hn]; unfold hL; rw [hn]; rfl
    · unfold hL; rw [hn]; exact hO.below hb' (Nat.le_refl _)
set_option maxRecDepth 100000 in
set_option maxHeartbeats 2000000 in
theorem specServerHear_any (b off cap : Nat) (es : List EntD) (sf : Int) (up : Bool) (e : EntD) (w : World) (hbb : b < w.heap.size) (h : EntsAt w.heap.size w (some ⟨b, off, none⟩) es) (hf : EntsFit es) (hef : EFit e) (hcap : es.length ≤ cap) (hcm : cap ≤ maxLen) :
    Calls Tryd.prog 28 #[.agg #[.slice (some ⟨b, off, none⟩) es.length cap, .int .i64 sf, .bool up], .agg #[.int .i64 e.who, .int .i64 e.seq, .int .i64 e.op.kind, .int .i64 e.op.id, .int .i64 e.op.up, .int .i64 e.op.at_, .string e.op.txt]] w (RetHr (hearS ⟨es, sf, up⟩ e) (hearB ⟨es, sf, up⟩ e) w) := by
  have HOK : Hid (hearOk ⟨es, sf, up⟩ e = (srvB ⟨es, sf, up⟩ && entB e)) := rfl
  have hb0 : Below w.heap.size w (((w.alloc (.cells #[.slice (some ⟨b, off, none⟩) es.length cap, .int .i64 sf, .bool up] 43)).alloc (.cells #[.int .i64 e.who, .int .i64 e.seq, .int .i64 e.op.kind, .int .i64 e.op.id, .int .i64 e.op.up, .int .i64 e.op.at_, .string e.op.txt] 52)).alloc (.cells #[.slice none 0 0, .int .i64 0, .bool false] 43)) := (((Below.refl _ _).alloc (Nat.le_refl _) _).alloc (by simp) _).alloc (by simp; omega) _
  have X0 := ((Bx.new w 43 #[.slice (some ⟨b, off, none⟩) es.length cap, .int .i64 sf, .bool up]).alloc (.cells #[.int .i64 e.who, .int .i64 e.seq, .int .i64 e.op.kind, .int .i64 e.op.id, .int .i64 e.op.up, .int .i64 e.op.at_, .string e.op.txt] 52)).alloc (.cells #[.slice none 0 0, .int .i64 0, .bool false] 43)
  have E0 := (Bx.new (w.alloc (.cells #[.slice (some ⟨b, off, none⟩) es.length cap, .int .i64 sf, .bool up] 43)) 52 #[.int .i64 e.who, .int .i64 e.seq, .int .i64 e.op.kind, .int .i64 e.op.id, .int .i64 e.op.up, .int .i64 e.op.at_, .string e.op.txt]).alloc (.cells #[.slice none 0 0, .int .i64 0, .bool false] 43)
  have Y0 := Bx.new ((w.alloc (.cells #[.slice (some ⟨b, off, none⟩) es.length cap, .int .i64 sf, .bool up] 43)).alloc (.cells #[.int .i64 e.who, .int .i64 e.seq, .int .i64 e.op.kind, .int .i64 e.op.id, .int .i64 e.op.up, .int .i64 e.op.at_, .string e.op.txt] 52)) 43 #[.slice none 0 0, .int .i64 0, .bool false]
  have hs1 : (w.alloc (.cells #[.slice (some ⟨b, off, none⟩) es.length cap, .int .i64 sf, .bool up] 43)).heap.size = w.heap.size + 1 := by simp
  have hs2 : ((w.alloc (.cells #[.slice (some ⟨b, off, none⟩) es.length cap, .int .i64 sf, .bool up] 43)).alloc (.cells #[.int .i64 e.who, .int .i64 e.seq, .int .i64 e.op.kind, .int .i64 e.op.id, .int .i64 e.op.up, .int .i64 e.op.at_, .string e.op.txt] 52)).heap.size = w.heap.size + 1 + 1 := by simp
  rw [hs1] at E0
  rw [hs2] at Y0
  have h0 := h.below hb0
  clear hs1 hs2
  go_enter Tryd.func28, Tryd.ntmps28
  go_upto_region 1 with fail
  generalize (((w.alloc (.cells #[.slice (some ⟨b, off, none⟩) es.length cap, .int .i64 sf, .bool up] 43)).alloc (.cells #[.int .i64 e.who, .int .i64 e.seq, .int .i64 e.op.kind, .int .i64 e.op.id, .int .i64 e.op.up, .int .i64 e.op.at_, .string e.op.txt] 52)).alloc (.cells #[.slice none 0 0, .int .i64 0, .bool false] 43)) = w1 at *
  obtain ⟨x0, x1, x2⟩ := X0.srv
  go_wp2_with fail
  refine (specServerOk_any w.heap.size _ cap es sf up w1 hb0.size h0 hf hcap hcm).mono ?_
  rintro _ w2 ⟨rfl, b2⟩
  have X2 := X0.below b2 X0.lt
  have E2 := E0.below b2 E0.lt
  have Y2 := Y0.below b2 Y0.lt
  have L2 := hb0.trans (b2.mono hb0.size)
  clear X0 E0 Y0 x0 x1 x2 b2
  generalize hsb : srvB ⟨es, sf, up⟩ = sb at *
  have HSB := Lib.hid hsb
  clear hsb
  cases sb
  · have HFO : Hid (hearOk ⟨es, sf, up⟩ e = false) := by unfold Hid; rw [HOK.out]; rfl
    have d0 := Y2.cell 0 rfl
    have d1 := Y2.cell 1 rfl
    have d2 := Y2.cell 2 rfl
    have y0 := Y2.frozen 0
    have y1 := Y2.frozen 1
    have y2 := Y2.frozen 2
    clear X2 Y2 E2
    go_wp2
    exact bodyPost_ret (v := .tuple #[.agg #[.slice none 0 0, .int .i64 0, .bool false], .bool false]) (by simp [results, Tryd.results28, go_sem, d0, d1, d2]) rfl (retHr_zero HFO.out (by omega) L2 _ _ _)
  · have e0 := E2.cell 0 rfl
    have e1 := E2.cell 1 rfl
    have e2 := E2.cell 2 rfl
    have e3 := E2.cell 3 rfl
    have e4 := E2.cell 4 rfl
    have e5 := E2.cell 5 rfl
    have e6 := E2.cell 6 rfl
    go_wp2_with fail
    refine (specEntryOk_any e w2 hef).mono ?_
    rintro _ w3 ⟨rfl, b3⟩
    have X3 := X2.below b3 X2.lt
    have E3 := E2.below b3 E2.lt
    have Y3 := Y2.below b3 Y2.lt
    have L3 := L2.trans (b3.mono L2.size)
    clear X2 E2 Y2 L2 b3 e0 e1 e2 e3 e4 e5 e6
    generalize heb : entB e = eb at *
    have HEB := Lib.hid heb
    clear heb
    cases eb
    · have HFO : Hid (hearOk ⟨es, sf, up⟩ e = false) := by unfold Hid; rw [HOK.out]; rfl
      have d0 := Y3.cell 0 rfl
      have d1 := Y3.cell 1 rfl
      have d2 := Y3.cell 2 rfl
      have y0 := Y3.frozen 0
      have y1 := Y3.frozen 1
      have y2 := Y3.frozen 2
      clear X3 Y3 E3
      go_wp2
      exact bodyPost_ret (v := .tuple #[.agg #[.slice none 0 0, .int .i64 0, .bool false], .bool false]) (by simp [results, Tryd.results28, go_sem, d0, d1, d2]) rfl (retHr_zero HFO.out (by omega) L3 _ _ _)
    · have HFO : Hid (hearOk ⟨es, sf, up⟩ e = true) := by unfold Hid; rw [HOK.out]; rfl
      have HQ := Lib.hid (hear_new HFO.out)
      obtain ⟨x0, x1, x2⟩ := X3.srv
      have e0 := E3.cell 0 rfl
      have e1 := E3.cell 1 rfl
      have e2 := E3.cell 2 rfl
      have e3 := E3.cell 3 rfl
      have e4 := E3.cell 4 rfl
      have e5 := E3.cell 5 rfl
      have e6 := E3.cell 6 rfl
      have L3d := L3.drew
      have E3d := E3.drew
      have Y3d := Y3.drew
      have hyd : w.heap.size + 1 + 1 < w3.drew.heap.size := Y3d.lt
      have HC := Lib.hid (l13Copy_any b off cap es sf up w3.drew (Nat.lt_of_lt_of_le hbb L3d.size) ((h.below L3d).mono L3d.size) hf.1)
      clear X3 E3 Y3 L3
      go_wp2_with fail
      go_region_with (first
        | (go_at_call 57; refine HC.out.mono ?_; rintro _ w4 ⟨a4, c4, rfl, _, S4, b4⟩; obtain ⟨g, rfl, O4⟩ := S4 rfl; simp only [] at O4; have L4 := L3d.trans (b4.mono L3d.size); have E4 := E3d.below b4 E3d.lt; have Y4 := Y3d.below b4 Y3d.lt; have f0 := E4.cell 0 rfl; have f1 := E4.cell 1 rfl; have f2 := E4.cell 2 rfl; have f3 := E4.cell 3 rfl; have f4 := E4.cell 4 rfl; have f5 := E4.cell 5 rfl; have f6 := E4.cell 6 rfl; have HH := Lib.hid (l13Hear_one w3.drew.heap.size g c4 es sf up e w4 O4 b4.size hf.1))
        | (go_at_call 56; refine HH.out.mono ?_; rintro _ w5 ⟨g5, c5, rfl, O5, b5⟩; have L5 := L4.trans (b5.mono L4.size); have Y5 := Y4.below b5 Y4.lt; have d0 := Y5.cell 0 rfl; have d1 := Y5.cell 1 rfl; have d2 := Y5.cell 2 rfl; have y0 := Y5.frozen 0; have y1 := Y5.frozen 1; have y2 := Y5.frozen 2))
      all_goals
        have hgr : w.heap.size + 1 + 1 < g5 := Nat.lt_of_lt_of_le hyd O5.lo
        clear x0 x1 x2 e0 e1 e2 e3 e4 e5 e6 f0 f1 f2 f3 f4 f5 f6 HC HH E3d Y3d E4 Y4 Y5 O4 L4 S4
        generalize hL up es e = hl5 at *
        generalize newB up es e = nb at *
        go_wp2
        exact bodyPost_ret (v := .tuple #[.agg #[.slice (some ⟨g5, 0, none⟩) hl5.length c5, .int .i64 sf, .bool up], .bool nb]) (by simp [results, Tryd.results28, go_sem, d0, d1, d2]) rfl (by rw [HQ.out.1, HQ.out.2]; exact ⟨_, _, rfl, ((O5.mono L3d.size).given3 (by omega) _ _ _).got, below_given3 L5 (by omega) _ _ _⟩)
end Go.Proofs.YtoofdhooinaneaaDoor
