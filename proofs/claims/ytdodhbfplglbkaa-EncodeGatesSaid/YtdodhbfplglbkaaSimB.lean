/- Sim: the contracts of what goes through the values, gate by gate: the program's and the document's. -/
import Derived.Test.YtdodhbfplglbkaaRight
import Derived.Test.YtdodhbfplglbkaaCopyR
import Derived.Deep.RegionHeld3
import Derived.Deep.RegionWith
import Derived.Laws.EntriesVeiled
import Derived.Deep.LoopGhost
namespace Go.Proofs.Ytdodhbfplglbkaa
open Go.RowKit

abbrev encO (b : Bool) : List Value := [.bool b]
theorem lenO (b : Bool) : (encO b).length = 1 := rfl
/-- A literal's value by the values. -/
def litV (t : List Bool) (l : Int) : Bool := (t.getD (l / 2).toNat false) != (l % 2 == 1)
/-- What is put at literals' variables. -/
def putF (ps : List (Int × Bool)) (t : List Bool) : List Bool := ps.foldl (fun t p => t.set (p.1 / 2).toNat p.2) t
theorem putF_len : ∀ (ps : List (Int × Bool)) (t : List Bool), (putF ps t).length = t.length
  | [], _ => rfl
  | p :: r, t => by
    show (putF r (t.set (p.1 / 2).toNat p.2)).length = t.length
    rw [putF_len r]; simp
theorem putF_snoc (ps : List (Int × Bool)) (p : Int × Bool) (t : List Bool) : putF (ps ++ [p]) t = (putF ps t).set (p.1 / 2).toNat p.2 := by simp [putF, List.foldl_append]
/-- A gate's value, put at its place. -/
def gateT (C : Circ) (t : List Bool) (g : Int) : List Bool :=
  t.set ((C.ands.getD g.toNat (0, 0, 0)).1 / 2).toNat (litV t (C.ands.getD g.toNat (0, 0, 0)).2.1 && litV t (C.ands.getD g.toNat (0, 0, 0)).2.2)
def gatesT (C : Circ) (gs : List Int) (t : List Bool) : List Bool := gs.foldl (gateT C) t
theorem gatesT_len (C : Circ) : ∀ (gs : List Int) (t : List Bool), (gatesT C gs t).length = t.length
  | [], _ => rfl
  | g :: r, t => by
    show (gatesT C r (gateT C t g)).length = t.length
    rw [gatesT_len C r]; simp [gateT]
theorem gatesT_snoc (C : Circ) (gs : List Int) (g : Int) (t : List Bool) : gatesT C (gs ++ [g]) t = gateT C (gatesT C gs t) g := by simp [gatesT, List.foldl_append]
/-- The values ahead of the gates, and all values. -/
def baseT (C : Circ) (st row : List Bool) : List Bool := putF ((C.latches.map (·.1)).zip st) (putF (C.inputs.zip row) (List.replicate (C.max.toNat + 1) false))
def valF (C : Circ) (gs : List Int) (st row : List Bool) : List Bool := gatesT C gs (baseT C st row)
theorem baseT_len (C : Circ) (st row : List Bool) : (baseT C st row).length = C.max.toNat + 1 := by unfold baseT; rw [putF_len, putF_len]; simp
theorem valF_len (C : Circ) (gs : List Int) (st row : List Bool) : (valF C gs st row).length = C.max.toNat + 1 := by unfold valF; rw [gatesT_len, baseT_len]
theorem getD_bool {t : List Bool} {k : Nat} (h : k < t.length) : t[k]? = some (t.getD k false) := by simp [List.getD, h]
/-- Where a literal's value lies. -/
theorem lit_cell {w : World} {v : Value} {t : List Bool} {l : Int} (hv : RowE 1 encO w v t) (h0 : 0 ≤ l) (hl : l / 2 < (t.length : Int)) :
    ∃ b off c, v = .slice (some ⟨b, off, none⟩) t.length c ∧ w.cell? ⟨b, off + (l / 2).toNat, none⟩ = some (.bool (t.getD (l / 2).toNat false)) := by
  obtain ⟨A, c, rfl, _, _, hr⟩ := hv
  have hk : (l / 2).toNat < t.length := by omega
  obtain ⟨b, off, rfl, _, hc⟩ := hr (l / 2).toNat _ (getD_bool hk)
  refine ⟨b, off, c, rfl, ?_⟩
  have := hc 0 _ rfl
  simpa using this

/-- The function that asks for a literal by the values whose slice lies at bq. -/
abbrev isV (bq : Nat) : Value := .func (.func 142) #[] #[.pointer (some ⟨bq, 0, none⟩)]
set_option maxHeartbeats 400000 in
set_option maxRecDepth 100000 in
theorem asker_any (w : World) (A : Option Addr) (n c : Nat) :
    Calls Try.prog 118 #[.slice A n c] w fun e w' => e = .returned (isV w.heap.size) ∧ w' = w.alloc (.cells #[.slice A n c] 55) := by
  go_enter Try.func118, Try.ntmps118
  go_wp2
  go_ret
  exact ⟨rfl, rfl⟩
set_option maxHeartbeats 400000 in
set_option maxRecDepth 100000 in
theorem is_any (w : World) (bq : Nat) (v : Value) (t : List Bool) (l : Int) (hb : w.cell? ⟨bq, 0, none⟩ = some v) (hv : RowE 1 encO w v t) (h0 : 0 ≤ l) (hl : l / 2 < (t.length : Int)) (h6 : l ≤ 1000000) :
    Calls Try.prog 142 #[.int .i64 l, .pointer (some ⟨bq, 0, none⟩)] w fun e w' => e = .returned (.bool (litV t l)) ∧ w' = w := by
  obtain ⟨b, off, c, rfl, hc⟩ := lit_cell hv h0 hl
  unfold litV
  generalize t.getD (l / 2).toNat false = x at *
  have hq := tdiv_nn (b := 2) h0
  have hq0 : 0 ≤ l / 2 := by omega
  have hm : l.tmod 2 = l % 2 := Int.tmod_eq_emod_of_nonneg h0
  clear hv
  go_enter Try.func142, Try.ntmps142
  go_wp2
  go_ret
  exact ⟨rfl, rfl⟩

set_option maxHeartbeats 400000 in
set_option maxRecDepth 100000 in
theorem stateFits_any (w : World) (V : CV) (C : Circ) (sv : Value) (st : List Bool) (h : C.In w V) (hs : RowE 1 encO w sv st) :
    Calls Try.prog 115 #[V.val C.max, sv] w fun e w' => e = .returned (.bool (decide (st.length = C.latches.length))) ∧ Below w.heap.size w w' := by
  obtain ⟨A, c, e, hm⟩ := len_form h.l
  have hsl := hs.len
  obtain ⟨As, cs, rfl, _, _, _⟩ := hs
  obtain ⟨Vi, Vl, Vo, Vb, Vc, Vj, Vf, Va, Vs, Vt⟩ := V
  simp only at e
  subst e
  have HB := Lib.hid ((Below.refl w.heap.size w).alloc (Nat.le_refl _) (.cells #[.int .i64 C.max, Vi, .slice A C.latches.length c, Vo, Vb, Vc, Vj, Vf, Va, Vs, Vt] 29))
  clear h
  unfold maxLen at *
  generalize C.max = m at *
  generalize C.latches.length = n at *
  generalize st.length = k at *
  go_enter Try.func115, Try.ntmps115
  go_wp2
  go_ret
  exact ⟨ret_bool (by by_cases e : k = n <;> simp [e]; try omega), HB.out⟩
set_option maxHeartbeats 400000 in
set_option maxRecDepth 100000 in
theorem rowFits_any (w : World) (V : CV) (C : Circ) (sv : Value) (st : List Bool) (h : C.In w V) (hs : RowE 1 encO w sv st) :
    Calls Try.prog 139 #[V.val C.max, sv] w fun e w' => e = .returned (.bool (decide (st.length = C.inputs.length))) ∧ Below w.heap.size w w' := by
  obtain ⟨A, c, e, hm⟩ := len_form h.i
  have hsl := hs.len
  obtain ⟨As, cs, rfl, _, _, _⟩ := hs
  obtain ⟨Vi, Vl, Vo, Vb, Vc, Vj, Vf, Va, Vs, Vt⟩ := V
  simp only at e
  subst e
  have HB := Lib.hid ((Below.refl w.heap.size w).alloc (Nat.le_refl _) (.cells #[.int .i64 C.max, .slice A C.inputs.length c, Vl, Vo, Vb, Vc, Vj, Vf, Va, Vs, Vt] 29))
  clear h
  unfold maxLen at *
  generalize C.max = m at *
  generalize C.inputs.length = n at *
  generalize st.length = k at *
  go_enter Try.func139, Try.ntmps139
  go_wp2
  go_ret
  exact ⟨ret_bool (by by_cases e : k = n <;> simp [e]; try omega), HB.out⟩
end Go.Proofs.Ytdodhbfplglbkaa

namespace Go.Proofs.Ytdodhbfplglbkaa
open Go.RowKit

/-- What stands while values are gone through: the circuit's box, the values' block, and (where it is another one) the block that holds their slice. -/
structure VS (w0 wr : World) (bx g bq : Nat) (cs : Array Value) (n : Nat) (T : List Bool) : Prop where
  below : Below w0.heap.size w0 wr
  box : Blk wr bx 29 cs
  tab : Tab wr g T
  cl : bq ≠ g → Blk wr bq 55 #[.slice (some ⟨g, 0, none⟩) n n]
section
variable {w0 wr : World} {bx g bq n : Nat} {cs : Array Value} {T : List Bool}
theorem VS.alloc (h : VS w0 wr bx g bq cs n T) (o : Obj) : VS w0 (wr.alloc o) bx g bq cs n T :=
  ⟨h.below.alloc h.below.size o, h.box.alloc o, Blk.alloc h.tab o, fun e => (h.cl e).alloc o⟩
theorem VS.drew (h : VS w0 wr bx g bq cs n T) : VS w0 wr.drew bx g bq cs n T := ⟨h.below.drew, h.box.drew, h.tab, fun e => (h.cl e).drew⟩
theorem VS.set_ (h : VS w0 wr bx g bq cs n T) (hB : w0.heap.size ≤ g) (hx : bx ≠ g) (i : Nat) (b : Bool) : VS w0 (wr.setCell ⟨g, i, none⟩ (.bool b)) bx g bq cs n (T.set i b) :=
  ⟨h.below.setCell hB _, Blk.far h.box (by simpa using hx) _, Tab.set_ h.tab i b, fun e => Blk.far (h.cl e) (by simpa using e) _⟩
end
theorem tabT_row {w : World} {g : Nat} {T : List Bool} (h : Tab w g T) (hm : T.length ≤ maxLen) : RowE 1 encO w (.slice (some ⟨g, 0, none⟩) T.length T.length) T :=
  ⟨_, _, rfl, Nat.le_refl _, hm, fun i z hz => ⟨g, 0, rfl, Blk.lt h, fun j u hu => by
    have hj : j = 0 := by have := (List.getElem?_eq_some_iff.1 hu).1; simp at this; exact this
    subst hj
    simp at hu
    subst hu
    have := h.cell hz
    simpa using this⟩⟩
theorem zipT_snoc {xs : List Int} {ys : List Bool} {q : Nat} {x : Int} {y : Bool} (hx : xs[q]? = some x) (hy : ys[q]? = some y) : (xs.zip ys).take (q + 1) = (xs.zip ys).take q ++ [(x, y)] := by
  have : (xs.zip ys)[q]? = some (x, y) := by rw [List.getElem?_zip_eq_some]; exact ⟨hx, hy⟩
  rw [List.take_add_one, this]; rfl
theorem zipT_all {xs : List Int} {ys : List Bool} {n : Nat} (hx : xs.length = n) : (xs.zip ys).take n = xs.zip ys := List.take_of_length_le (by simp [List.length_zip]; omega)
theorem gsT_snoc {gs : List Int} {q : Nat} {x : Int} (hx : gs[q]? = some x) : gs.take (q + 1) = gs.take q ++ [x] := by
  rw [List.take_add_one, hx]; rfl

set_option maxHeartbeats 8000000 in
set_option maxRecDepth 100000 in
theorem valuesOf_any (w : World) (V : CV) (C : Circ) (gv sv rv : Value) (gs : List Int) (st row : List Bool) (h : C.In w V) (hg : RowE 1 encI w gv gs) (hs : RowE 1 encO w sv st) (hr : RowE 1 encO w rv row)
    (hrt : Right C) (hls : st.length = C.latches.length) (hlr : row.length = C.inputs.length) (hG : ∀ g ∈ gs, 0 ≤ g ∧ g < (C.ands.length : Int)) (hgl : gs.length ≤ 16384) :
    Calls Try.prog 119 #[V.val C.max, gv, sv, rv] w fun e w' => ∃ g, e = .returned (.slice (some ⟨g, 0, none⟩) (C.max.toNat + 1) (C.max.toNat + 1)) ∧ w.heap.size ≤ g ∧ Below w.heap.size w w' ∧ Tab w' g (valF C gs st row) := by
  obtain ⟨m, hmm⟩ : ∃ m : Nat, C.max = (m : Int) := ⟨C.max.toNat, by have := hrt.m0; omega⟩
  have hm1 := hrt.m1
  have hmt : C.max.toNat = m := by rw [hmm]; rfl
  have hvf : valF C gs st row = gatesT C gs (putF ((C.latches.map (·.1)).zip st) (putF (C.inputs.zip row) (List.replicate (m + 1) false))) := by unfold valF baseT; rw [hmt]
  rw [hmt, hvf]
  rw [hmm] at hm1 ⊢
  have hmk := make_bools (m + 1) (by omega)
  push_cast at hmk
  have hn1 := hrt.ni
  have hn2 := hrt.nl
  have hn3 := hrt.na
  have HI : Hid (∀ l ∈ C.inputs, 0 ≤ l ∧ l / 2 ≤ (m : Int)) := Lib.hid (fun l hl => by have := hrt.i l hl; omega)
  have HL : Hid (∀ z ∈ C.latches, 0 ≤ z.1 ∧ z.1 / 2 ≤ (m : Int)) := Lib.hid (fun z hz => by have := (hrt.l z hz).1; omega)
  have HA : Hid (∀ z ∈ C.ands, (0 ≤ z.1 ∧ z.1 / 2 ≤ (m : Int)) ∧ (0 ≤ z.2.1 ∧ z.2.1 / 2 ≤ (m : Int)) ∧ (0 ≤ z.2.2 ∧ z.2.2 / 2 ≤ (m : Int))) := Lib.hid (fun z hz => by
    obtain ⟨a, b, c⟩ := hrt.a z hz
    unfold LitOk at b c
    rw [hmm] at a b c
    exact ⟨⟨by omega, a.2⟩, b, c⟩)
  obtain ⟨AI, cI, eI, _, _, rI⟩ := h.i
  obtain ⟨AL, cL, eL, _, _, rL⟩ := h.l
  obtain ⟨AA, cA, eA, _, _, rA⟩ := h.a
  obtain ⟨AG, cG, eG, _, _, rG⟩ := hg
  obtain ⟨AS, cS, eS, _, _, rS⟩ := hs
  obtain ⟨AR, cR, eR, _, _, rR⟩ := hr
  obtain ⟨Vi, Vl, Vo, Vb, Vc, Vj, Vf, Va, Vs, Vt⟩ := V
  simp only at eI eL eA
  subst eI eL eA eG eS eR
  rw [hls, hlr]
  have HS0 : Hid (VS w (((w.alloc (.cells #[.int .i64 m, .slice AI C.inputs.length cI, .slice AL C.latches.length cL, Vo, Vb, Vc, Vj, Vf, .slice AA C.ands.length cA, Vs, Vt] 29)).alloc (.cells (madeCells #[Value.bool false] (m + 1)) 4)).alloc (.cells #[.slice (some ⟨w.heap.size + 1, 0, none⟩) (m + 1) (m + 1)] 55)) w.heap.size (w.heap.size + 1) (w.heap.size + 1 + 1) #[.int .i64 m, .slice AI C.inputs.length cI, .slice AL C.latches.length cL, Vo, Vb, Vc, Vj, Vf, .slice AA C.ands.length cA, Vs, Vt] (m + 1) (List.replicate (m + 1) false)) := by
    refine Lib.hid ⟨(((Below.refl w.heap.size w).alloc (Nat.le_refl _) _).alloc (by simp) _).alloc (by simp; omega) _, ((Blk.new w _ _).alloc _).alloc _, ?_, fun _ => ?_⟩
    · unfold Tab
      rw [← made_bools]
      have := (Blk.new (w.alloc (.cells #[.int .i64 m, .slice AI C.inputs.length cI, .slice AL C.latches.length cL, Vo, Vb, Vc, Vj, Vf, .slice AA C.ands.length cA, Vs, Vt] 29)) 4 (madeCells #[Value.bool false] (m + 1))).alloc (.cells #[.slice (some ⟨w.heap.size + 1, 0, none⟩) (m + 1) (m + 1)] 55)
      simpa using this
    · have := Blk.new ((w.alloc (.cells #[.int .i64 m, .slice AI C.inputs.length cI, .slice AL C.latches.length cL, Vo, Vb, Vc, Vj, Vf, .slice AA C.ands.length cA, Vs, Vt] 29)).alloc (.cells (madeCells #[Value.bool false] (m + 1)) 4)) 55 #[.slice (some ⟨w.heap.size + 1, 0, none⟩) (m + 1) (m + 1)]
      simpa using this
  have HRI := Lib.hid rI
  have HRL := Lib.hid rL
  have HRA := Lib.hid rA
  have HRG := Lib.hid rG
  have HRS := Lib.hid rS
  have HRR := Lib.hid rR
  have HG := Lib.hid hG
  clear rI rL rA rG rS rR hG h hrt hmm hmt hvf
  generalize hnI : C.inputs.length = nI at *
  generalize hnL : C.latches.length = nL at *
  generalize hnA : C.ands.length = nA at *
  generalize hnG : gs.length = nG at *
  have HNI := Lib.hid hnI
  have HNL := Lib.hid hnL
  have HNA := Lib.hid hnA
  have HNG := Lib.hid hnG
  have HLR := Lib.hid hlr
  have HLS := Lib.hid hls
  clear hnI hnL hnA hnG hlr hls
  have hasker := asker_any ((w.alloc (.cells #[.int .i64 m, .slice AI nI cI, .slice AL nL cL, Vo, Vb, Vc, Vj, Vf, .slice AA nA cA, Vs, Vt] 29)).alloc (.cells (madeCells #[Value.bool false] (m + 1)) 4)) (some ⟨w.heap.size + 1, 0, none⟩) (m + 1) (m + 1)
  rw [show ((w.alloc (.cells #[.int .i64 m, .slice AI nI cI, .slice AL nL cL, Vo, Vb, Vc, Vj, Vf, .slice AA nA cA, Vs, Vt] 29)).alloc (.cells (madeCells #[Value.bool false] (m + 1)) 4)).heap.size = w.heap.size + 1 + 1 by simp] at hasker
  have HASK := Lib.hid hasker
  clear hasker
  go_enter Try.func119, Try.ntmps119
  go_wp2_with (go_at_call 118; refine HASK.out.mono ?_; rintro e w5 ⟨rfl, rfl⟩)
  go_loopg [26] nI (fun k j wx => ∃ q : Nat, q ≤ nI ∧ k = nI - q ∧ j = .int .i64 q ∧ VS w wx w.heap.size (w.heap.size + 1) (w.heap.size + 1 + 1) #[.int .i64 m, .slice AI nI cI, .slice AL nL cL, Vo, Vb, Vc, Vj, Vf, .slice AA nA cA, Vs, Vt] (m + 1) (putF ((C.inputs.zip row).take q) (List.replicate (m + 1) false)))
  case atStart => exact ⟨0, Nat.zero_le _, rfl, rfl, HS0.out⟩
  case round =>
    obtain ⟨q, hq, hgk, rfl, hst⟩ := hrel
    subst hgk
    have HST := Lib.hid hst
    have bx := hst.box
    have x1 := bx.cell 1
    have x2 := bx.cell 2
    have x8 := bx.cell 8
    simp only [List.getElem?_toArray, List.getElem?_cons_zero, List.getElem?_cons_succ] at x1 x2 x8
    clear bx
    by_cases hlt : q < nI
    · obtain ⟨l, hl⟩ : ∃ l, C.inputs[q]? = some l := ⟨_, List.getElem?_eq_getElem (by rw [HNI.out]; exact hlt)⟩
      obtain ⟨y, hy⟩ : ∃ y, row[q]? = some y := ⟨_, List.getElem?_eq_getElem (by rw [HLR.out]; exact hlt)⟩
      obtain ⟨b, off, e, hb, hcell⟩ := HRI.out q l hl
      subst e
      obtain ⟨b2, off2, e, hb2, hcell2⟩ := HRR.out q y hy
      subst e
      have h0 := (HST.out.below.cell (p := ⟨b, off + (q * 1 + 0), none⟩) hb).trans (hcell 0 _ rfl)
      have h1 := (HST.out.below.cell (p := ⟨b2, off2 + (q * 1 + 0), none⟩) hb2).trans (hcell2 0 _ rfl)
      simp only [Nat.mul_one, Nat.add_zero] at h0 h1
      obtain ⟨hl0, hl1⟩ := HI.out l (List.mem_of_getElem? hl)
      have hp := zipT_snoc hl hy
      have HP := Lib.hid hp
      have hq2 := tdiv_nn (b := 2) hl0
      have hq3 : 0 ≤ l / 2 := by omega
      have hq4 : l / 2 < (m : Int) + 1 := by omega
      have hlen : (putF ((C.inputs.zip row).take q) (List.replicate (m + 1) false)).length = m + 1 := by rw [putF_len]; simp
      have htl : (l / 2).toNat < (putF ((C.inputs.zip row).take q) (List.replicate (m + 1) false)).length := by rw [hlen]; omega
      have hold := hst.tab.cell (getD_bool htl)
      have hfr := Blk.frozen hst.tab (l / 2).toNat
      have hgb := Blk.lt hst.tab
      clear hcell hcell2 hl hy hp hst hlen htl
      go_wp2
      go_roundg (nI - (q + 1))
      case measure => omega
      case rel =>
        refine ⟨q + 1, by omega, rfl, by go_num, ?_⟩
        rw [HP.out, putF_snoc]
        exact HST.out.set_ (by omega) (by omega) _ _
    · have hqe : nI = q := by omega
      subst hqe
      clear hst hlt hq
      have HB1 : Hid (putF ((C.inputs.zip row).take nI) (List.replicate (m + 1) false) = putF (C.inputs.zip row) (List.replicate (m + 1) false)) := Lib.hid (by rw [zipT_all HNI.out])
      have HL1 : Hid ((putF (C.inputs.zip row) (List.replicate (m + 1) false)).length = m + 1) := Lib.hid (by rw [putF_len]; simp)
      rw [HB1.out] at HST
      clear HB1
      obtain ⟨T1, hT1⟩ : ∃ T1, putF (C.inputs.zip row) (List.replicate (m + 1) false) = T1 := ⟨_, rfl⟩
      rw [hT1] at HST HL1
      have HT1 := Lib.hid hT1
      clear hT1
      go_wp2
      go_loopg [43] nL (fun k j wx => ∃ q : Nat, q ≤ nL ∧ k = nL - q ∧ j = .int .i64 q ∧ VS w wx w.heap.size (w.heap.size + 1) (w.heap.size + 1 + 1) #[.int .i64 m, .slice AI nI cI, .slice AL nL cL, Vo, Vb, Vc, Vj, Vf, .slice AA nA cA, Vs, Vt] (m + 1) (putF (((C.latches.map (·.1)).zip st).take q) T1))
      case atStart => exact ⟨0, Nat.zero_le _, rfl, rfl, HST.out⟩
      case round =>
        obtain ⟨q, hq, hgk, rfl, hst⟩ := hrel
        subst hgk
        clear x1 x2 x8
        have HST2 := Lib.hid hst
        have bx := hst.box
        have x1 := bx.cell 1
        have x2 := bx.cell 2
        have x8 := bx.cell 8
        simp only [List.getElem?_toArray, List.getElem?_cons_zero, List.getElem?_cons_succ] at x1 x2 x8
        clear bx
        by_cases hlt : q < nL
        · obtain ⟨z, hz⟩ : ∃ z, C.latches[q]? = some z := ⟨_, List.getElem?_eq_getElem (by rw [HNL.out]; exact hlt)⟩
          obtain ⟨y, hy⟩ : ∃ y, st[q]? = some y := ⟨_, List.getElem?_eq_getElem (by rw [HLS.out]; exact hlt)⟩
          obtain ⟨b, off, e, hb, hcell⟩ := HRL.out q z hz
          subst e
          obtain ⟨b2, off2, e, hb2, hcell2⟩ := HRS.out q y hy
          subst e
          have hl : (C.latches.map (·.1))[q]? = some z.1 := by rw [List.getElem?_map, hz]; rfl
          have hp := zipT_snoc hl hy
          have HP := Lib.hid hp
          have HZ := Lib.hid (HL.out z (List.mem_of_getElem? hz))
          obtain ⟨z0, z1, z2⟩ := z
          have h0 := (HST2.out.below.cell (p := ⟨b, off + (q * 3 + 0), none⟩) hb).trans (hcell 0 _ rfl)
          have h1 := (HST2.out.below.cell (p := ⟨b, off + (q * 3 + 1), none⟩) hb).trans (hcell 1 _ rfl)
          have h2 := (HST2.out.below.cell (p := ⟨b, off + (q * 3 + 2), none⟩) hb).trans (hcell 2 _ rfl)
          simp only [Nat.add_zero, ← Nat.add_assoc] at h0 h1 h2
          obtain ⟨hl0, hl1⟩ := HZ.out
          simp only at hl0 hl1
          have hq2 := tdiv_nn (b := 2) hl0
          have hq3 : 0 ≤ z0 / 2 := by omega
          have hq4 : z0 / 2 < (m : Int) + 1 := by omega
          have hlen : (putF (((C.latches.map (·.1)).zip st).take q) T1).length = m + 1 := by rw [putF_len, HL1.out]
          have htl : (z0 / 2).toNat < (putF (((C.latches.map (·.1)).zip st).take q) T1).length := by rw [hlen]; omega
          have HX := Lib.hid (hst.alloc (.cells #[.int .i64 z0, .int .i64 z1, .int .i64 z2] 70))
          have hbX : Below wr.heap.size wr ((wr.alloc (.cells #[.int .i64 z0, .int .i64 z1, .int .i64 z2] 70)).drew) := ((Below.refl _ _).alloc (Nat.le_refl _) _).drew
          have hbb2 : b2 < wr.heap.size := Nat.lt_of_lt_of_le hb2 HST2.out.below.size
          have h3 := (HX.out.drew.below.cell (p := ⟨b2, off2 + (q * 1 + 0), none⟩) hb2).trans (hcell2 0 _ rfl)
          simp only [Nat.mul_one, Nat.add_zero] at h3
          have hold := HX.out.drew.tab.cell (getD_bool htl)
          have hfr := Blk.frozen HX.out.drew.tab (z0 / 2).toNat
          have hgb := Blk.lt HX.out.drew.tab
          have hql : (q : Int) < (nL : Int) := by omega
          have hql0 : (0 : Int) ≤ (q : Int) := by omega
          clear hcell hcell2 hz hl hy hp hst hlen htl hbX
          go_upto_region 11 with (fail)
          go_region
          go_wp2
          go_roundg (nL - (q + 1))
          case measure => omega
          case rel =>
            refine ⟨q + 1, by omega, rfl, by go_num, ?_⟩
            rw [HP.out, putF_snoc]
            exact HX.out.drew.set_ (by omega) (by omega) _ _
        · have hqe : nL = q := by omega
          subst hqe
          clear hst hlt hq
          have HB2 : Hid (putF (((C.latches.map (·.1)).zip st).take nL) T1 = putF ((C.latches.map (·.1)).zip st) T1) := Lib.hid (by rw [zipT_all (by rw [List.length_map]; exact HNL.out)])
          have HL2 : Hid ((putF ((C.latches.map (·.1)).zip st) T1).length = m + 1) := Lib.hid (by rw [putF_len]; exact HL1.out)
          rw [HB2.out] at HST2
          clear HB2
          obtain ⟨T2, hT2⟩ : ∃ T2, putF ((C.latches.map (·.1)).zip st) T1 = T2 := ⟨_, rfl⟩
          rw [hT2] at HST2 HL2
          have HT2 := Lib.hid hT2
          clear hT2
          go_wp2
          go_loopg [60] nG (fun k j wx => ∃ q : Nat, q ≤ nG ∧ k = nG - q ∧ j = .int .i64 q ∧ VS w wx w.heap.size (w.heap.size + 1) (w.heap.size + 1 + 1) #[.int .i64 m, .slice AI nI cI, .slice AL nL cL, Vo, Vb, Vc, Vj, Vf, .slice AA nA cA, Vs, Vt] (m + 1) (gatesT C (gs.take q) T2))
          case atStart => exact ⟨0, Nat.zero_le _, rfl, rfl, HST2.out⟩
          case round =>
            obtain ⟨q, hq, hgk, rfl, hst⟩ := hrel
            subst hgk
            clear x1 x2 x8
            have HST3 := Lib.hid hst
            have bx := hst.box
            have x1 := bx.cell 1
            have x2 := bx.cell 2
            have x8 := bx.cell 8
            simp only [List.getElem?_toArray, List.getElem?_cons_zero, List.getElem?_cons_succ] at x1 x2 x8
            clear bx
            by_cases hlt : q < nG
            · obtain ⟨gq, hgq⟩ : ∃ gq, gs[q]? = some gq := ⟨_, List.getElem?_eq_getElem (by rw [HNG.out]; exact hlt)⟩
              obtain ⟨hg0, hg1⟩ := HG.out gq (List.mem_of_getElem? hgq)
              obtain ⟨gn, rfl⟩ : ∃ n : Nat, gq = (n : Int) := ⟨gq.toNat, by omega⟩
              obtain ⟨z, hz⟩ : ∃ z, C.ands[gn]? = some z := ⟨_, List.getElem?_eq_getElem (by rw [HNA.out]; omega)⟩
              have HGT : Hid (∀ T, gateT C T (gn : Int) = T.set (z.1 / 2).toNat (litV T z.2.1 && litV T z.2.2)) := Lib.hid (fun T => by
                unfold gateT
                have : C.ands.getD (gn : Int).toNat (0, 0, 0) = z := by simp [List.getD, hz]
                rw [this])
              have HP := Lib.hid (gsT_snoc hgq)
              obtain ⟨b, off, e, hb, hcell⟩ := HRG.out q _ hgq
              subst e
              have h0 := (HST3.out.below.cell (p := ⟨b, off + (q * 1 + 0), none⟩) hb).trans (hcell 0 _ rfl)
              simp only [Nat.mul_one, Nat.add_zero] at h0
              have HZ := Lib.hid (HA.out z (List.mem_of_getElem? hz))
              obtain ⟨b2, off2, e2, hb2, hcell2⟩ := HRA.out gn z hz
              subst e2
              obtain ⟨z0, z1, z2⟩ := z
              have h3 := (HST3.out.below.cell (p := ⟨b2, off2 + (gn * 3 + 0), none⟩) hb2).trans (hcell2 0 _ rfl)
              have h4 := (HST3.out.below.cell (p := ⟨b2, off2 + (gn * 3 + 1), none⟩) hb2).trans (hcell2 1 _ rfl)
              have h5 := (HST3.out.below.cell (p := ⟨b2, off2 + (gn * 3 + 2), none⟩) hb2).trans (hcell2 2 _ rfl)
              simp only [Nat.add_zero, ← Nat.add_assoc] at h3 h4 h5
              have HTL : Hid ((gatesT C (gs.take q) T2).length = m + 1) := Lib.hid (by rw [gatesT_len]; exact HL2.out)
              have HSN : Hid (gatesT C (gs.take (q + 1)) T2 = (gatesT C (gs.take q) T2).set (z0 / 2).toNat (litV (gatesT C (gs.take q) T2) z1 && litV (gatesT C (gs.take q) T2) z2)) := Lib.hid (by rw [HP.out, gatesT_snoc, HGT.out])
              clear hcell hcell2 hz hgq HGT HP
              generalize gatesT C (gs.take q) T2 = T at *
              obtain ⟨⟨a0, a1⟩, ⟨b0, b1⟩, ⟨c0, c1⟩⟩ := HZ.out
              simp only at a0 a1 b0 b1 c0 c1
              have hq2 := tdiv_nn (b := 2) a0
              have hq3 : 0 ≤ z0 / 2 := by omega
              have hq4 : z0 / 2 < (m : Int) + 1 := by omega
              have htl : (z0 / 2).toNat < T.length := by rw [HTL.out]; omega
              have HX := Lib.hid ((hst.alloc (.cells #[.int .i64 z0, .int .i64 z1, .int .i64 z2] 68)).drew.drew)
              have HIS : Hid (∀ (wx : World) (l : Int), VS w wx w.heap.size (w.heap.size + 1) (w.heap.size + 1 + 1) #[.int .i64 m, .slice AI nI cI, .slice AL nL cL, Vo, Vb, Vc, Vj, Vf, .slice (some ⟨b2, off2, none⟩) nA cA, Vs, Vt] (m + 1) T → 0 ≤ l → l / 2 ≤ (m : Int) → Calls Try.prog 142 #[.int .i64 l, .pointer (some ⟨w.heap.size + 1 + 1, 0, none⟩)] wx fun e w' => e = .returned (.bool (litV T l)) ∧ w' = wx) := Lib.hid (fun wx l hx h0 h1 => by
                have hv := tabT_row hx.tab (by rw [HTL.out]; unfold maxLen; omega)
                rw [HTL.out] at hv
                have hbq := (hx.cl (by omega)).cell 0
                simp only [List.getElem?_toArray, List.getElem?_cons_zero] at hbq
                exact is_any wx _ _ T l hbq hv h0 (by rw [HTL.out]; push_cast; omega) (by omega))
              have hold := HX.out.tab.cell (getD_bool htl)
              have hfr := Blk.frozen HX.out.tab (z0 / 2).toNat
              have hgb := Blk.lt HX.out.tab
              have hnb : Blk ((wr.alloc (.cells #[.int .i64 z0, .int .i64 z1, .int .i64 z2] 68)).drew.drew) wr.heap.size 68 #[.int .i64 z0, .int .i64 z1, .int .i64 z2] := (Blk.new wr _ _).drew.drew
              have hne : w.heap.size + 1 ≠ wr.heap.size := by have := Blk.lt hst.tab; omega
              have HKE : Hid (∀ b : Bool, (((wr.alloc (.cells #[.int .i64 z0, .int .i64 z1, .int .i64 z2] 68)).drew.drew).setCell ⟨w.heap.size + 1, (z0 / 2).toNat, none⟩ (.bool b)).cell? ⟨wr.heap.size, 0, none⟩ = some (.int .i64 z0) ∧ (((wr.alloc (.cells #[.int .i64 z0, .int .i64 z1, .int .i64 z2] 68)).drew.drew).setCell ⟨w.heap.size + 1, (z0 / 2).toNat, none⟩ (.bool b)).cell? ⟨wr.heap.size, 1, none⟩ = some (.int .i64 z1) ∧ (((wr.alloc (.cells #[.int .i64 z0, .int .i64 z1, .int .i64 z2] 68)).drew.drew).setCell ⟨w.heap.size + 1, (z0 / 2).toNat, none⟩ (.bool b)).cell? ⟨wr.heap.size, 2, none⟩ = some (.int .i64 z2)) := Lib.hid (fun b => by
                have e := Blk.far hnb (p := ⟨w.heap.size + 1, (z0 / 2).toNat, none⟩) (by simpa using Ne.symm hne) (.bool b)
                exact ⟨e.cell 0, e.cell 1, e.cell 2⟩)
              have y0 := hnb.cell 0
              have y1 := hnb.cell 1
              have y2 := hnb.cell 2
              simp only [List.getElem?_toArray, List.getElem?_cons_zero, List.getElem?_cons_succ] at y0 y1 y2
              have HY := Lib.hid (And.intro y0 (And.intro y1 y2))
              have hgnl : (gn : Int) < (nA : Int) := by omega
              have hgn0 : (0 : Int) ≤ (gn : Int) := by omega
              have HBC := Lib.hid (And.intro (And.intro b0 b1) (And.intro c0 c1))
              clear hst htl hnb y0 y1 y2 b0 b1 c0 c1
              have hbX : Below wr.heap.size wr ((wr.alloc (.cells #[.int .i64 0, .int .i64 0, .int .i64 0] 68)).drew) := ((Below.refl _ _).alloc (Nat.le_refl _) _).drew
              have hbw : b < wr.heap.size := Nat.lt_of_lt_of_le hb HST3.out.below.size
              have hbw2 : b2 < wr.heap.size := Nat.lt_of_lt_of_le hb2 HST3.out.below.size
              have k0 := (hbX.cell (p := ⟨b, off + q, none⟩) hbw).trans h0
              have k3 := (hbX.cell (p := ⟨b2, off2 + gn * 3, none⟩) hbw2).trans h3
              have k4 := (hbX.cell (p := ⟨b2, off2 + gn * 3 + 1, none⟩) hbw2).trans h4
              have k5 := (hbX.cell (p := ⟨b2, off2 + gn * 3 + 2, none⟩) hbw2).trans h5
              have k8 := (hbX.cell (p := ⟨w.heap.size, 8, none⟩) (by have := Blk.lt HST3.out.box; exact this)).trans x8
              have hql : (q : Int) < (nG : Int) := by omega
              have hql0 : (0 : Int) ≤ (q : Int) := by omega
              clear hbX
              go_upto_region 16 with (fail)
              go_region
              go_upto_region 17 with (fail)
              clear k0 k3 k4 k5 k8
              have hq5 : z0 / 2 < ((m + 1 : Nat) : Int) := by push_cast; omega
              have hq6 : z0.tdiv 2 < ((m + 1 : Nat) : Int) := by rw [hq2]; exact hq5
              have hq7 : 0 ≤ z0.tdiv 2 := by rw [hq2]; exact hq3
              have hq8 : IntKind.i64.wrap (z0 / 2) = z0 / 2 := by simp [IntKind.wrap, IntKind.bits, IntKind.signed]; omega
              have hq9 : ¬ z0 / 2 < 0 := by omega
              cases hv1 : litV T z1
              · have HI1 : Hid (∀ wx, VS w wx w.heap.size (w.heap.size + 1) (w.heap.size + 1 + 1) #[.int .i64 m, .slice AI nI cI, .slice AL nL cL, Vo, Vb, Vc, Vj, Vf, .slice (some ⟨b2, off2, none⟩) nA cA, Vs, Vt] (m + 1) T → Calls Try.prog 142 #[.int .i64 z1, .pointer (some ⟨w.heap.size + 1 + 1, 0, none⟩)] wx fun e w' => e = .returned (.bool false) ∧ w' = wx) := Lib.hid (fun wx hx => by have := HIS.out wx z1 hx HBC.out.1.1 HBC.out.1.2; rwa [hv1] at this)
                have HV1 := Lib.hid hv1
                clear hv1
                first | (go_region_with (go_at_call_of 142 z1; refine (HI1.out _ ?_).mono ?_; exact HX.out; rintro e w5 ⟨rfl, rfl⟩)) | fail
                all_goals go_wp2
                all_goals go_roundg (nG - (q + 1))
                all_goals first
                  | omega
                  | (refine ⟨q + 1, by omega, rfl, by go_num, ?_⟩
                     rw [HSN.out, HV1.out]
                     exact HX.out.set_ (by omega) (by omega) _ _)
              · have HI1 : Hid (∀ wx, VS w wx w.heap.size (w.heap.size + 1) (w.heap.size + 1 + 1) #[.int .i64 m, .slice AI nI cI, .slice AL nL cL, Vo, Vb, Vc, Vj, Vf, .slice (some ⟨b2, off2, none⟩) nA cA, Vs, Vt] (m + 1) T → Calls Try.prog 142 #[.int .i64 z1, .pointer (some ⟨w.heap.size + 1 + 1, 0, none⟩)] wx fun e w' => e = .returned (.bool true) ∧ w' = wx) := Lib.hid (fun wx hx => by have := HIS.out wx z1 hx HBC.out.1.1 HBC.out.1.2; rwa [hv1] at this)
                have HI2 : Hid (∀ wx, VS w wx w.heap.size (w.heap.size + 1) (w.heap.size + 1 + 1) #[.int .i64 m, .slice AI nI cI, .slice AL nL cL, Vo, Vb, Vc, Vj, Vf, .slice (some ⟨b2, off2, none⟩) nA cA, Vs, Vt] (m + 1) T → Calls Try.prog 142 #[.int .i64 z2, .pointer (some ⟨w.heap.size + 1 + 1, 0, none⟩)] wx fun e w' => e = .returned (.bool (litV T z2)) ∧ w' = wx) := Lib.hid (fun wx hx => HIS.out wx z2 hx HBC.out.2.1 HBC.out.2.2)
                have HV1 := Lib.hid hv1
                clear hv1
                (go_region_held3 (fun w' => w'.cell? ⟨wr.heap.size, 0, none⟩ = some (.int .i64 z0) ∧ w'.cell? ⟨wr.heap.size, 1, none⟩ = some (.int .i64 z1) ∧ w'.cell? ⟨wr.heap.size, 2, none⟩ = some (.int .i64 z2)) (first | exact HY.out | exact HKE.out _ | go_keep)
                  (first
                    | (go_at_call_of 142 z1; refine (HI1.out _ HX.out).mono ?_; rintro e w5 ⟨rfl, rfl⟩)
                    | (go_at_call_of 142 z2; refine (HI2.out _ HX.out).mono ?_; rintro e w5 ⟨rfl, rfl⟩)))
                go_wp2
                go_roundg (nG - (q + 1))
                case measure => omega
                case rel =>
                  refine ⟨q + 1, by omega, rfl, by go_num, ?_⟩
                  rw [HSN.out, HV1.out]
                  exact HX.out.set_ (by omega) (by omega) _ _
            · have hqe : nG = q := by omega
              subst hqe
              clear hst hlt hq
              go_wp2
              have := HST3.out
              rw [List.take_of_length_le (by rw [HNG.out]; exact Nat.le_refl _)] at this
              go_ret
              exact ⟨w.heap.size + 1, rfl, by omega, this.below, by rw [HT1.out, HT2.out]; exact this.tab⟩
end Go.Proofs.Ytdodhbfplglbkaa
