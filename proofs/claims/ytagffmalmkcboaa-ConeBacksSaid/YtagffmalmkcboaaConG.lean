/- Cone: the contracts of rootsOf (of a bad) and coneOf. -/
import Derived.Test.YtagffmalmkcboaaConE
import Derived.BigQuiet
import Derived.Deep.Quiet
namespace Go.Proofs.Ytagffmalmkcboaa
open Go.RowKit Go.Maps

def cntP (C : Circ) (k : Int) : Int := if k = 98 then (C.bads.length : Int) else if k = 106 then (C.justice.length : Int) else 0
theorem lists_slice {w : World} {v : Value} {zss : List (List Int)} (h : Lists w v zss) : ∃ A c, v = .slice A zss.length c := by
  obtain ⟨vs, ⟨A, c, e, _⟩, hl, _⟩ := h
  exact ⟨A, c, by rw [e, hl]⟩
set_option maxHeartbeats 4000000 in
set_option maxRecDepth 100000 in
theorem countP_any (w : World) (V : CV) (C : Circ) (k : Int) (h : C.In w V) :
    Calls Try.prog 46 #[V.val C.max, .int .u8 k] w fun e w' => e = .returned (.int .i64 (cntP C k)) ∧ Below w.heap.size w w' := by
  have HB0 := Lib.hid ((Below.refl w.heap.size w).alloc (Nat.le_refl _) (.cells (V.cells C.max) 29))
  have hbx := Blk.new w 29 (V.cells C.max)
  obtain ⟨A4, c4, e4, _⟩ := h.b
  obtain ⟨A6, c6, e6⟩ := lists_slice h.j
  have x4 := hbx.cell 4
  have x6 := hbx.cell 6
  obtain ⟨Vi, Vl, Vo, Vb, Vc, Vj, Vf, Va, Vs, Vt⟩ := V
  simp only at e4 e6
  subst e4 e6
  simp only [List.getElem?_toArray, List.getElem?_cons_succ, List.getElem?_cons_zero] at x4 x6
  clear hbx h
  have HC : Hid (cntP C k = if k = 98 then (C.bads.length : Int) else if k = 106 then (C.justice.length : Int) else 0) := Lib.hid rfl
  generalize C.bads.length = n4 at *
  generalize C.justice.length = n6 at *
  by_cases h1 : k = 98
  · subst h1
    have HE : Hid (cntP C 98 = (n4 : Int)) := Lib.hid (by rw [HC.out]; simp)
    go_enter Try.func46, Try.ntmps46
    go_wp2
    go_ret
    exact ⟨by rw [HE.out]; rfl, HB0.out⟩
  · have h1' : ¬ (98 : Int) = k := fun e => h1 e.symm
    by_cases h2 : k = 106
    · subst h2
      have HE : Hid (cntP C 106 = (n6 : Int)) := Lib.hid (by rw [HC.out]; simp)
      go_enter Try.func46, Try.ntmps46
      go_wp2
      go_ret
      exact ⟨by rw [HE.out]; rfl, HB0.out⟩
    · have h2' : ¬ (106 : Int) = k := fun e => h2 e.symm
      have HE : Hid (cntP C k = 0) := Lib.hid (by rw [HC.out, if_neg h1, if_neg h2])
      go_enter Try.func46, Try.ntmps46
      go_wp2
      go_ret
      exact ⟨by rw [HE.out]; rfl, HB0.out⟩

abbrev encPr (p : Int × Int) : List Value := [.int .u8 p.1, .int .i64 p.2]
theorem lenPr (z : Int × Int) : (encPr z).length = 2 := rfl
def hasP (C : Circ) (p : Int × Int) : Bool := decide (0 ≤ p.2) && decide (p.2 < cntP C p.1)
def propsE (C : Circ) (ps : List (Int × Int)) : Int := if (checkR C).2 ≠ 0 then (checkR C).2 else if ps.all (hasP C) = true then 0 else 5
theorem propsE_ok {C : Circ} {ps : List (Int × Int)} (h : propsE C ps = 0) : (checkR C).2 = 0 ∧ ∀ p ∈ ps, hasP C p = true := by
  unfold propsE at h
  by_cases h0 : (checkR C).2 = 0
  · rw [if_neg (by simp [h0])] at h
    by_cases h2 : ps.all (hasP C) = true
    · exact ⟨h0, List.all_eq_true.1 h2⟩
    · rw [if_neg h2] at h; cases h
  · rw [if_pos h0] at h; exact absurd h h0
theorem propsE_bad {C : Circ} {ps : List (Int × Int)} (h : (checkR C).2 ≠ 0) : propsE C ps = (checkR C).2 := by unfold propsE; rw [if_pos h]
theorem propsE_all {C : Circ} {ps : List (Int × Int)} (h : (checkR C).2 = 0) (h2 : ps.all (hasP C) = true) : propsE C ps = 0 := by unfold propsE; rw [if_neg (by simp [h]), if_pos h2]
theorem propsE_five {C : Circ} {ps : List (Int × Int)} (h : (checkR C).2 = 0) {p : Int × Int} (hp : p ∈ ps) (h2 : hasP C p = false) : propsE C ps = 5 := by
  unfold propsE
  rw [if_neg (by simp [h]), if_neg (fun h3 => by have := List.all_eq_true.1 h3 p hp; rw [h2] at this; cases this)]

set_option maxHeartbeats 8000000 in
set_option maxRecDepth 100000 in
theorem checkProps_any (w : World) (V : CV) (C : Circ) (v : Value) (ps : List (Int × Int)) (h : C.In w V) (ok : C.Ok) (hv : RowE 2 encPr w v ps) (hpl : ps.length ≤ 100) :
    Calls Try.prog 26 #[V.val C.max, v] w fun e w' => e = .returned (.int .i64 (propsE C ps)) ∧ Below w.heap.size w w' := by
  have hb0 := (Below.refl w.heap.size w).alloc (Nat.le_refl _) (.cells (V.cells C.max) 29)
  have hbx0 := Blk.new w 29 (V.cells C.max)
  have HCHK := Lib.hid (Check_any (w.alloc (.cells (V.cells C.max) 29)) V C (h.below hb0) ok)
  have HCN := Lib.hid (fun (wx : World) (k : Int) (hb : Below w.heap.size w wx) => countP_any wx V C k (h.below hb))
  obtain ⟨m, hm⟩ : ∃ m, C.max = m := ⟨_, rfl⟩
  rw [hm] at hb0 hbx0 HCHK HCN ⊢
  have HB0 := Lib.hid hb0
  have HX0 := Lib.hid hbx0
  obtain ⟨A, c, rfl, _, _, hA⟩ := hv
  have HA := Lib.hid hA
  clear hA h ok hb0 hbx0 hm
  obtain ⟨Vi, Vl, Vo, Vb, Vc, Vj, Vf, Va, Vs, Vt⟩ := V
  generalize hl : ps.length = nl at *
  have HL := Lib.hid hl
  clear hl
  by_cases hz : (checkR C).2 = 0
  · have HZ := Lib.hid hz
    rw [hz] at HCHK
    clear hz
    go_enter Try.func26, Try.ntmps26
    go_wp2_with (go_at_call 36; refine HCHK.out.mono ?_; rintro e w2 ⟨rfl, hb2⟩; have HB2 := Lib.hid (bt HB0.out (by simp) hb2); have HX2 := Lib.hid (HX0.out.below hb2 (by simp)); clear hb2)
    go_loopg [19] nl (fun j iv wx => ∃ q : Nat, q ≤ nl ∧ j = nl - q ∧ iv = .int .i64 q ∧ Below w.heap.size w wx ∧ Blk wx w.heap.size 29 #[.int .i64 m, Vi, Vl, Vo, Vb, Vc, Vj, Vf, Va, Vs, Vt] ∧ (ps.take q).all (hasP C) = true)
    case atStart => exact ⟨0, Nat.zero_le _, rfl, rfl, HB2.out, HX2.out, rfl⟩
    case round =>
      obtain ⟨q, hq, hgk, rfl, hbl, hbx, hall⟩ := hrel
      subst hgk
      have HBL := Lib.hid hbl
      have HBX := Lib.hid hbx
      have HALL := Lib.hid hall
      clear hall hbl hbx HB2 HX2
      by_cases hlt : q < nl
      · have hx := List.getElem?_eq_getElem (l := ps) (i := q) (by rw [HL.out]; exact hlt)
        generalize ps[q]'(by rw [HL.out]; exact hlt) = x at hx
        obtain ⟨b, off, rfl, hb, hcell⟩ := HA.out q x hx
        have HX := Lib.hid hx
        obtain ⟨x0, x1⟩ := x
        have h0 := (HBL.out.cell (p := ⟨b, off + (q * 2 + 0), none⟩) hb).trans (hcell 0 _ rfl)
        have h1 := (HBL.out.cell (p := ⟨b, off + (q * 2 + 1), none⟩) hb).trans (hcell 1 _ rfl)
        simp only [Nat.add_zero, ← Nat.add_assoc] at h0 h1
        clear hcell hx
        have hk0 : (0 : Int) ≤ (q : Int) := by omega
        have hk1 : (q : Int) < (nl : Int) := by omega
        obtain ⟨W3, hW3⟩ : ∃ W3, wr.alloc (.cells #[.int .u8 x0, .int .i64 x1] 31) = W3 := ⟨_, rfl⟩
        have HW3 := Lib.hid hW3
        have HB3 : Hid (Below w.heap.size w W3) := Lib.hid (by rw [← hW3]; exact HBL.out.alloc HBL.out.size _)
        have HX3 : Hid (Blk W3 w.heap.size 29 #[.int .i64 m, Vi, Vl, Vo, Vb, Vc, Vj, Vf, Va, Vs, Vt]) := Lib.hid (by rw [← hW3]; exact HBX.out.alloc _)
        have HP3 : Hid (Blk W3 wr.heap.size 31 #[.int .u8 x0, .int .i64 x1]) := Lib.hid (by rw [← hW3]; exact Blk.new wr _ _)
        have HCNT : Hid (∀ wz, Below W3.heap.size W3 wz → Calls Try.prog 46 #[({ i := Vi, l := Vl, o := Vo, b := Vb, c := Vc, j := Vj, f := Vf, a := Va, s := Vs, t := Vt } : CV).val m, .int .u8 x0] wz fun e w' => e = .returned (.int .i64 (cntP C x0)) ∧ Below wz.heap.size wz w') := Lib.hid (fun wz hb => HCN.out wz x0 (bt HB3.out (Nat.le_refl _) hb))
        have HCL : Hid (∀ wz, Below W3.heap.size W3 wz → wz.cell? ⟨w.heap.size, 0, none⟩ = some (.int .i64 m) ∧ wz.cell? ⟨w.heap.size, 1, none⟩ = some Vi ∧ wz.cell? ⟨w.heap.size, 2, none⟩ = some Vl ∧ wz.cell? ⟨w.heap.size, 3, none⟩ = some Vo ∧ wz.cell? ⟨w.heap.size, 4, none⟩ = some Vb ∧ wz.cell? ⟨w.heap.size, 5, none⟩ = some Vc ∧ wz.cell? ⟨w.heap.size, 6, none⟩ = some Vj ∧ wz.cell? ⟨w.heap.size, 7, none⟩ = some Vf ∧ wz.cell? ⟨w.heap.size, 8, none⟩ = some Va ∧ wz.cell? ⟨w.heap.size, 9, none⟩ = some Vs ∧ wz.cell? ⟨w.heap.size, 10, none⟩ = some Vt ∧ wz.cell? ⟨wr.heap.size, 0, none⟩ = some (.int .u8 x0) ∧ wz.cell? ⟨wr.heap.size, 1, none⟩ = some (.int .i64 x1)) := Lib.hid (fun wz hb => by
          have hx := HX3.out.below hb HX3.out.lt
          have hp := HP3.out.below hb HP3.out.lt
          exact ⟨hx.cell 0, hx.cell 1, hx.cell 2, hx.cell 3, hx.cell 4, hx.cell 5, hx.cell 6, hx.cell 7, hx.cell 8, hx.cell 9, hx.cell 10, hp.cell 0, hp.cell 1⟩)
        clear hW3
        by_cases hn : x1 < 0
        · have HE : Hid (propsE C ps = 5) := Lib.hid (propsE_five HZ.out (List.mem_of_getElem? HX.out) (by unfold hasP; simp; omega))
          go_upto_region 7 with (fail)
          rw [HW3.out]
          refine wp_region_quiet (C := fun wz => Below W3.heap.size W3 wz) (by kernel_rfl) (by kernel_rfl) (Below.refl _ _).drew ?_
          simp only
          repeat
            first
              | go_big_quiet_skip
              | (refine wpQuiet_step (fun K hK => ?_)
                 rw [if_pos (by rfl)]
                 unfold Oper.quiet
                 apply Exists.intro
                 refine And.intro (fun wx hWx => ?_) (hK _ ?_)
                 · obtain ⟨c0, c1, c2, c3, c4, c5, c6, c7, c8, c9, c10, d0, d1⟩ := HCL.out wx hWx
                   first
                     | (go_simp; exact rfl)
                     | (go_simp; go_at_call 46; refine (HCNT.out _ hWx).mono ?_; rintro e w' ⟨rfl, hb'⟩; exact ⟨rfl, bt hWx (Nat.le_refl _) hb'⟩)
                 clear hK K
                 try simp only [Act.put, zA, zB, zC])
          refine wpQuiet_nil ?_
          intro w5 hW5
          have HW5 := Lib.hid (bt HB3.out (Nat.le_refl _) hW5)
          clear hW5
          go_wp2
          go_ret
          exact ⟨by rw [HE.out]; rfl, HW5.out⟩
        · have hn0 : (0 : Int) ≤ x1 := by omega
          obtain ⟨cn, hcn⟩ : ∃ cn, cntP C x0 = cn := ⟨_, rfl⟩
          rw [hcn] at HCNT
          by_cases hge : cn ≤ x1
          · have HE : Hid (propsE C ps = 5) := Lib.hid (propsE_five HZ.out (List.mem_of_getElem? HX.out) (by unfold hasP; rw [hcn]; simp; omega))
            clear hcn
            go_upto_region 7 with (fail)
            rw [HW3.out]
            refine wp_region_quiet (C := fun wz => Below W3.heap.size W3 wz) (by kernel_rfl) (by kernel_rfl) (Below.refl _ _).drew ?_
            simp only
            repeat
              first
                | go_big_quiet_skip
                | (refine wpQuiet_step (fun K hK => ?_)
                   rw [if_pos (by rfl)]
                   unfold Oper.quiet
                   apply Exists.intro
                   refine And.intro (fun wx hWx => ?_) (hK _ ?_)
                   · obtain ⟨c0, c1, c2, c3, c4, c5, c6, c7, c8, c9, c10, d0, d1⟩ := HCL.out wx hWx
                     first
                       | (go_simp; exact rfl)
                       | (go_simp; go_at_call 46; refine (HCNT.out _ hWx).mono ?_; rintro e w' ⟨rfl, hb'⟩; exact ⟨rfl, bt hWx (Nat.le_refl _) hb'⟩)
                   clear hK K
                   try simp only [Act.put, zA, zB, zC])
            refine wpQuiet_nil ?_
            intro w5 hW5
            have HW5 := Lib.hid (bt HB3.out (Nat.le_refl _) hW5)
            clear hW5
            go_wp2
            go_ret
            exact ⟨by rw [HE.out]; rfl, HW5.out⟩
          · have HE : Hid (hasP C (x0, x1) = true) := Lib.hid (by unfold hasP; rw [hcn]; simp; omega)
            have hge' : x1 < cn := by omega
            clear hcn
            go_upto_region 7 with (fail)
            rw [HW3.out]
            refine wp_region_quiet (C := fun wz => Below W3.heap.size W3 wz) (by kernel_rfl) (by kernel_rfl) (Below.refl _ _).drew ?_
            simp only
            repeat
              first
                | go_big_quiet_skip
                | (refine wpQuiet_step (fun K hK => ?_)
                   rw [if_pos (by rfl)]
                   unfold Oper.quiet
                   apply Exists.intro
                   refine And.intro (fun wx hWx => ?_) (hK _ ?_)
                   · obtain ⟨c0, c1, c2, c3, c4, c5, c6, c7, c8, c9, c10, d0, d1⟩ := HCL.out wx hWx
                     first
                       | (go_simp; exact rfl)
                       | (go_simp; go_at_call 46; refine (HCNT.out _ hWx).mono ?_; rintro e w' ⟨rfl, hb'⟩; exact ⟨rfl, bt hWx (Nat.le_refl _) hb'⟩)
                   clear hK K
                   try simp only [Act.put, zA, zB, zC])
            refine wpQuiet_nil ?_
            intro w5 hW5
            have HW5 := Lib.hid (bt HB3.out (Nat.le_refl _) hW5)
            have HX5 := Lib.hid (HX3.out.below hW5 HX3.out.lt)
            clear hW5
            go_wp2
            go_roundg (nl - (q + 1))
            case measure => omega
            case rel => exact ⟨q + 1, by omega, rfl, by go_num, HW5.out, HX5.out, by rw [take_more HX.out, List.all_append, HALL.out]; simp [HE.out]⟩
      · have : q = nl := by omega
        subst this
        have HE : Hid (propsE C ps = 0) := Lib.hid (propsE_all HZ.out (by have := HALL.out; rwa [List.take_of_length_le (by rw [HL.out]; exact Nat.le_refl _)] at this))
        go_wp2
        go_ret
        exact ⟨by rw [HE.out]; rfl, HBL.out⟩
  · have HE : Hid (propsE C ps = (checkR C).2) := Lib.hid (propsE_bad hz)
    rw [HE.out]
    generalize (checkR C).2 = r at *
    clear HE
    go_enter Try.func26, Try.ntmps26
    go_wp2_with (go_at_call 36; refine HCHK.out.mono ?_; rintro e w2 ⟨rfl, hb2⟩; have HB2 := Lib.hid (bt HB0.out (by simp) hb2); clear hb2)
    go_ret
    exact ⟨rfl, HB2.out⟩
end Go.Proofs.Ytagffmalmkcboaa

namespace Go.Proofs.Ytagffmalmkcboaa
open Go.RowKit Go.Maps

def rootsB (C : Circ) (a : Nat) : List Int := C.bads.getD a 0 :: C.constraints
set_option maxHeartbeats 8000000 in
set_option maxRecDepth 100000 in
theorem rootsB_any (w : World) (V : CV) (C : Circ) (a : Nat) (h : C.In w V) (hr : Right C) (ha : a < C.bads.length) :
    Calls Try.prog 55 #[V.val C.max, .agg #[.int .u8 98, .int .i64 a]] w fun e w' => ∃ v, e = .returned v ∧ Below w.heap.size w w' ∧ w'.ownsRow w.heap.size 3 1 v (rootsB C a).length ((rootsB C a).map (Value.int .i64)) := by
  obtain ⟨W2, hW2⟩ : ∃ W2, (w.alloc (.cells (V.cells C.max) 29)).alloc (.cells #[.int .u8 98, .int .i64 a] 31) = W2 := ⟨_, rfl⟩
  have HW2 := Lib.hid hW2
  have hB2 : Below w.heap.size w W2 := by rw [← hW2]; exact ((Below.refl _ _).alloc (Nat.le_refl _) _).alloc (by simp) _
  have hX2 : Blk W2 w.heap.size 29 (V.cells C.max) := by rw [← hW2]; exact (Blk.new w _ _).alloc _
  have hP2 : Blk W2 (w.heap.size + 1) 31 #[.int .u8 98, .int .i64 a] := by
    rw [← hW2]
    have := Blk.new (w.alloc (.cells (V.cells C.max) 29)) 31 #[.int .u8 98, .int .i64 a]
    rwa [show (w.alloc (.cells (V.cells C.max) 29)).heap.size = w.heap.size + 1 by simp] at this
  have hS2 : w.heap.size + 2 ≤ W2.heap.size := by rw [← hW2]; simp
  obtain ⟨A4, c4, e4, _, _, hb4⟩ := h.b
  obtain ⟨x, hx⟩ : ∃ x, C.bads[a]? = some x := ⟨_, List.getElem?_eq_getElem ha⟩
  obtain ⟨b, off, rfl, hb, hcell⟩ := hb4 a x hx
  have h0 := (hB2.cell (p := ⟨b, off + (a * 1 + 0), none⟩) hb).trans (hcell 0 _ rfl)
  simp only [Nat.add_zero, Nat.mul_one] at h0
  have hR : rootsB C a = x :: C.constraints := by unfold rootsB; rw [List.getD_eq_getElem?_getD, hx]; rfl
  have HR := Lib.hid hR
  have HC5 := Lib.hid (fun wz (hz : Below W2.heap.size W2 wz) => (h.below (bt hB2 (Nat.le_refl _) hz)).c)
  have hnc := hr.nc
  obtain ⟨A5, c5, e5, _⟩ := h.c
  have HRD : Hid (∀ wz, Below W2.heap.size W2 wz → Reads wz wz.heap.size 1 A5 C.constraints.length (C.constraints.map (Value.int .i64))) := Lib.hid (fun wz hz => by
    obtain ⟨A, c, e, hrd⟩ := (HC5.out wz hz).reads lenI (by omega)
    rw [e5] at e
    injection e with e1 _ _
    subst e1
    rw [flat_ints] at hrd
    exact hrd)
  have HB2 := Lib.hid hB2
  obtain ⟨Vi, Vl, Vo, Vb, Vc, Vj, Vf, Va, Vs, Vt⟩ := V
  simp only at e4 e5
  subst e4 e5
  have hk0 := hP2.cell 0
  simp only [List.getElem?_toArray, List.getElem?_cons_zero] at hk0
  have HC : Hid (∀ wz, Below W2.heap.size W2 wz → wz.cell? ⟨w.heap.size, 4, none⟩ = some (.slice (some ⟨b, off, none⟩) C.bads.length c4) ∧ wz.cell? ⟨w.heap.size + 1, 1, none⟩ = some (.int .i64 a) ∧ wz.cell? ⟨b, off + a, none⟩ = some (.int .i64 x) ∧ wz.cell? ⟨w.heap.size, 5, none⟩ = some (.slice A5 C.constraints.length c5)) := Lib.hid (fun wz hz => by
    have q1 := hX2.below hz hX2.lt
    have q2 := hP2.below hz hP2.lt
    exact ⟨q1.cell 4, q2.cell 1, (hz.cell (p := ⟨b, off + a, none⟩) (by have := hb; have := hB2.size; show b < W2.heap.size; omega)).trans h0, q1.cell 5⟩)
  obtain ⟨i0, hi0, hz0, hz1, hz2⟩ := info_of2 infoIS
  have HI0 := Lib.hid (And.intro hi0 (And.intro hz0 (And.intro hz1 hz2)))
  clear hX2 hP2 hb4 hcell h hx hR hi0 hz0 hz1 hz2 hB2 h0 hr hW2 HC5
  generalize hn4 : C.bads.length = n4 at *
  generalize hn5 : C.constraints.length = n5 at *
  have HN5 := Lib.hid hn5
  clear hn4 hn5
  have ha0 : (0 : Int) ≤ (a : Int) := by omega
  have ha1 : (a : Int) < (n4 : Int) := by omega
  go_enter Try.func55, Try.ntmps55
  go_upto_region 1 with (fail)
  rw [HW2.out]
  go_upto_region 2 with (fail)
  refine wp_region_T (by kernel_rfl) (fun w' => w'.cell? ⟨w.heap.size, 4, none⟩ = some (.slice (some ⟨b, off, none⟩) n4 c4) ∧ w'.cell? ⟨w.heap.size + 1, 1, none⟩ = some (.int .i64 a) ∧ w'.cell? ⟨b, off + a, none⟩ = some (.int .i64 x) ∧ w'.cell? ⟨w.heap.size, 5, none⟩ = some (.slice A5 n5 c5)) 11 ?_
  have HD0 : Hid (Below W2.heap.size W2 W2.drew) := Lib.hid (Below.refl _ _).drew
  have hHeld := HC.out _ HD0.out
  refine wpAnyT_take (i := 0) (v := ?v0r2q1) rfl (by kernel_rfl) (fun _ _ _ h => h) (by rfl) hHeld ?h0r2q1 ?_
  case h0r2q1 => (intro w' hSw; (try dsimp only at hSw); go_simp; try with_reducible rfl)
  (try simp only [Act.put, List.setIfInBounds_toArray])
  refine wpAnyT_take (i := 1) (v := ?v1r2q1) rfl (by kernel_rfl) (fun _ _ _ h => h) (by rfl) hHeld ?h1r2q1 ?_
  case h1r2q1 => (intro w' hSw; (try dsimp only at hSw); go_simp; try with_reducible rfl)
  (try simp only [Act.put])
  refine wpAnyT_take (i := 2) (v := ?v2r2q1) rfl (by kernel_rfl) (fun _ _ _ h => h) (by rfl) hHeld ?h2r2q1 ?_
  case h2r2q1 => (intro w' hSw; (try dsimp only at hSw); go_simp; try with_reducible rfl)
  (try simp only [Act.put])
  refine wpAnyT_take (i := 3) (v := ?v3r2q1) rfl (by kernel_rfl) (fun _ _ _ h => h) (by rfl) hHeld ?h3r2q1 ?_
  case h3r2q1 => (intro w' hSw; (try dsimp only at hSw); go_simp; try with_reducible rfl)
  (try simp only [Act.put])
  refine wpAnyT_take (i := 4) (v := ?v4r2q1) rfl (by kernel_rfl) (fun _ _ _ h => h) (by rfl) hHeld ?h4r2q1 ?_
  case h4r2q1 => (intro w' hSw; (try dsimp only at hSw); go_simp; try with_reducible rfl)
  (try simp only [Act.put])
  refine wpAnyT_take (i := 5) (v := ?v5r2q1) rfl (by kernel_rfl) (fun _ _ _ h => h) (by rfl) hHeld ?h5r2q1 ?_
  case h5r2q1 => (intro w' hSw; (try dsimp only at hSw); go_simp; try with_reducible rfl)
  (try simp only [Act.put])
  refine wpAnyT_take (i := 7) (v := ?v7r2q2) rfl (by kernel_rfl) (fun _ _ _ h => h) (by rfl) hHeld ?h7r2q2 ?_
  case h7r2q2 => (intro w' hSw; (try dsimp only at hSw); go_simp; try with_reducible rfl)
  (try simp only [Act.put])
  refine wpAnyT_take (i := 8) (v := ?v8r2q2) rfl (by kernel_rfl) (fun _ _ _ h => h) (by rfl) hHeld ?h8r2q2 ?_
  case h8r2q2 => (intro w' hSw; (try dsimp only at hSw); go_simp; try with_reducible rfl)
  (try simp only [Act.put])
  clear hHeld
  refine wpAnyT_one (i := 6) rfl (by kernel_rfl) (fun K hK => ?_)
  go_simp
  refine hK.out _ _ (fun _ => HC.out _ (HD0.out.alloc (Nat.le_refl _) _)) ?_
  clear hK K
  (try simp only [Act.put, zA, zB, zC])
  refine wpAnyT_one (i := 9) rfl (by kernel_rfl) (fun K hK => ?_)
  have HD1 : Hid (Below W2.heap.size W2 (W2.drew.alloc (.cells #[.int .i64 x] 3))) := Lib.hid (HD0.out.alloc (Nat.le_refl _) _)
  have HOW : Hid ((W2.drew.alloc (.cells #[.int .i64 x] 3)).ownsRow W2.heap.size 3 1 (.slice (some ⟨W2.heap.size, 0, none⟩) 1 1) 1 [.int .i64 x]) := Lib.hid ⟨rfl, .inr ⟨W2.heap.size, 1, _, rfl, Nat.le_refl _, Blk.new W2.drew _ _, Nat.le_refl _, by simp [maxLen], rfl, rfl⟩⟩
  refine step_append_any _ rfl (.tmp 17) (.tmp 19) _ rfl W2.heap.size 3 i0 _ 1 8 Try.underlying22 HI0.out.1 HI0.out.2.1 HI0.out.2.2.1 HI0.out.2.2.2 rfl (by omega) (.slice (some ⟨W2.heap.size, 0, none⟩) 1 1) 1 [.int .i64 x] (by first | rfl | (simp [Act.eval])) HOW.out _ A5 n5 c5 (C.constraints.map (Value.int .i64)) (by first | rfl | (simp [Act.eval])) (HRD.out _ HD1.out) (by intro u hu; obtain ⟨z, _, rfl⟩ := List.mem_map.1 hu; rfl) (by simp only [maxLen]; omega) (by omega) (by simp) ?_
  intro v5 w5 hown5 hg5 hat5
  have HB5 : Hid (Below W2.heap.size W2 w5) := Lib.hid (HD1.out.grown hg5 (by simp) (by intro k hk; simp [Value.ownBlock] at hk; omega))
  refine hK.out _ _ (fun _ => HC.out _ HB5.out) ?_
  clear hK K
  (try simp only [Act.put, List.setIfInBounds_toArray])
  have HO5 := Lib.hid hown5
  clear hown5 hg5 hat5
  refine wpAnyT_one (i := 10) rfl (by kernel_rfl) (fun K hK => ?_)
  go_simp
  refine hK.out _ _ (fun _ => HC.out _ HB5.out) ?_
  clear hK K
  (try simp only [Act.put, zA, zB, zC])
  refine wpAnyT_done (by kernel_rfl) ?_
  go_wp2
  go_ret
  refine ⟨v5, rfl, bt HB2.out (Nat.le_refl _) HB5.out, ?_⟩
  rw [HR.out]
  have := own_le HO5.out (B' := w.heap.size) (by omega)
  simpa [Nat.add_comm, HN5.out] using this

noncomputable def conB (C : Circ) (a : Nat) : List Bool := supF (thruU C) (rootsB C a)
theorem conB_len (C : Circ) (a : Nat) : (conB C a).length = C.max.toNat + 1 := by
  unfold conB
  rw [supF_len, thruU_len]
theorem rootsB_ok {C : Circ} (hr : Right C) {a : Nat} (ha : a < C.bads.length) : ∀ l ∈ rootsB C a, 0 ≤ l ∧ l / 2 ≤ C.max := fun l hl => by
  unfold rootsB at hl
  rcases List.mem_cons.1 hl with rfl | hl
  · rw [List.getD_eq_getElem?_getD, List.getElem?_eq_getElem ha]
    exact hr.b _ (List.getElem_mem ha)
  · exact hr.c l hl
theorem fits_bad {C : Circ} (hz : (checkR C).2 = 0) {a : Nat} (ha : a < C.bads.length) : CFits (thruU C) (rootsB C a) := fits_thru (fine_of hz) (rootsB_ok (right_of hz) ha)

set_option maxHeartbeats 8000000 in
set_option maxRecDepth 100000 in
theorem coneB_any (w : World) (V : CV) (C : Circ) (a : Nat) (h : C.In w V) (hz : (checkR C).2 = 0) (ha : a < C.bads.length) :
    Calls Try.prog 28 #[V.val C.max, .agg #[.int .u8 98, .int .i64 a]] w fun e w' => ∃ g, e = .returned (.slice (some ⟨g, 0, none⟩) (C.max.toNat + 1) (C.max.toNat + 1)) ∧ w.heap.size ≤ g ∧ Below w.heap.size w w' ∧ Tab w' g (conB C a) := by
  obtain ⟨W2, hW2⟩ : ∃ W2, (w.alloc (.cells (V.cells C.max) 29)).alloc (.cells #[.int .u8 98, .int .i64 a] 31) = W2 := ⟨_, rfl⟩
  have HW2 := Lib.hid hW2
  have hB2 : Below w.heap.size w W2 := by rw [← hW2]; exact ((Below.refl _ _).alloc (Nat.le_refl _) _).alloc (by simp) _
  have hX2 : Blk W2 w.heap.size 29 (V.cells C.max) := by rw [← hW2]; exact (Blk.new w _ _).alloc _
  have hP2 : Blk W2 (w.heap.size + 1) 31 #[.int .u8 98, .int .i64 a] := by
    rw [← hW2]
    have := Blk.new (w.alloc (.cells (V.cells C.max) 29)) 31 #[.int .u8 98, .int .i64 a]
    rwa [show (w.alloc (.cells (V.cells C.max) 29)).heap.size = w.heap.size + 1 by simp] at this
  have hr := right_of hz
  have HTH := Lib.hid (fun wz (hz : Below W2.heap.size W2 wz) => support_of wz V C (h.below (bt hB2 (Nat.le_refl _) hz)) hr)
  have HRO := Lib.hid (fun wz (hz : Below W2.heap.size W2 wz) => rootsB_any wz V C a (h.below (bt hB2 (Nat.le_refl _) hz)) hr ha)
  have hm1 := hr.m1
  have hnc := hr.nc
  have HSO := Lib.hid (fun wz (gu : Nat) (v : Value) (hu : Prs wz gu (thruU C)) (hv : RowE 1 encI wz v (rootsB C a)) => supportOf_any wz gu (C.max.toNat + 1) (thruU C) v (rootsB C a) hu (thruU_len C) (by omega) hv (by unfold rootsB; simp; omega) (fits_bad hz ha))
  have HB2 := Lib.hid hB2
  obtain ⟨Vi, Vl, Vo, Vb, Vc, Vj, Vf, Va, Vs, Vt⟩ := V
  have HC : Hid (∀ wz, Below W2.heap.size W2 wz → wz.cell? ⟨w.heap.size, 0, none⟩ = some (.int .i64 C.max) ∧ wz.cell? ⟨w.heap.size, 1, none⟩ = some Vi ∧ wz.cell? ⟨w.heap.size, 2, none⟩ = some Vl ∧ wz.cell? ⟨w.heap.size, 3, none⟩ = some Vo ∧ wz.cell? ⟨w.heap.size, 4, none⟩ = some Vb ∧ wz.cell? ⟨w.heap.size, 5, none⟩ = some Vc ∧ wz.cell? ⟨w.heap.size, 6, none⟩ = some Vj ∧ wz.cell? ⟨w.heap.size, 7, none⟩ = some Vf ∧ wz.cell? ⟨w.heap.size, 8, none⟩ = some Va ∧ wz.cell? ⟨w.heap.size, 9, none⟩ = some Vs ∧ wz.cell? ⟨w.heap.size, 10, none⟩ = some Vt ∧ wz.cell? ⟨w.heap.size + 1, 0, none⟩ = some (.int .u8 98) ∧ wz.cell? ⟨w.heap.size + 1, 1, none⟩ = some (.int .i64 a)) := Lib.hid (fun wz hz => by
    have q1 := hX2.below hz hX2.lt
    have q2 := hP2.below hz hP2.lt
    exact ⟨q1.cell 0, q1.cell 1, q1.cell 2, q1.cell 3, q1.cell 4, q1.cell 5, q1.cell 6, q1.cell 7, q1.cell 8, q1.cell 9, q1.cell 10, q2.cell 0, q2.cell 1⟩)
  have hs2 : w.heap.size ≤ W2.heap.size := hB2.size
  have HRS : Hid (conB C a = supF (thruU C) (rootsB C a)) := Lib.hid rfl
  obtain ⟨nx, hnx⟩ : ∃ nx, C.max.toNat + 1 = nx := ⟨_, rfl⟩
  rw [hnx] at HTH HSO ⊢
  clear hX2 hP2 h hr hW2 hB2 hnx hm1 hnc
  go_enter Try.func28, Try.ntmps28
  go_upto_region 1 with (fail)
  rw [HW2.out]
  refine wp_region_T (by kernel_rfl) (fun wz => wz.cell? ⟨w.heap.size, 0, none⟩ = some (.int .i64 C.max) ∧ wz.cell? ⟨w.heap.size, 1, none⟩ = some Vi ∧ wz.cell? ⟨w.heap.size, 2, none⟩ = some Vl ∧ wz.cell? ⟨w.heap.size, 3, none⟩ = some Vo ∧ wz.cell? ⟨w.heap.size, 4, none⟩ = some Vb ∧ wz.cell? ⟨w.heap.size, 5, none⟩ = some Vc ∧ wz.cell? ⟨w.heap.size, 6, none⟩ = some Vj ∧ wz.cell? ⟨w.heap.size, 7, none⟩ = some Vf ∧ wz.cell? ⟨w.heap.size, 8, none⟩ = some Va ∧ wz.cell? ⟨w.heap.size, 9, none⟩ = some Vs ∧ wz.cell? ⟨w.heap.size, 10, none⟩ = some Vt ∧ wz.cell? ⟨w.heap.size + 1, 0, none⟩ = some (.int .u8 98) ∧ wz.cell? ⟨w.heap.size + 1, 1, none⟩ = some (.int .i64 a)) 7 ?_
  have HD0 : Hid (Below W2.heap.size W2 W2.drew) := Lib.hid (Below.refl _ _).drew
  have hHeld := HC.out _ HD0.out
  refine wpAnyT_take (i := 0) (v := ?v0rc1q1) rfl (by kernel_rfl) (fun _ _ _ h => h) (by rfl) hHeld ?h0rc1q1 ?_
  case h0rc1q1 => (intro w' hSw; (try dsimp only at hSw); go_simp; try with_reducible rfl)
  (try simp only [Act.put, List.setIfInBounds_toArray])
  refine wpAnyT_take (i := 2) (v := ?v2rc1q2) rfl (by kernel_rfl) (fun _ _ _ h => h) (by rfl) hHeld ?h2rc1q2 ?_
  case h2rc1q2 => (intro w' hSw; (try dsimp only at hSw); go_simp; try with_reducible rfl)
  (try simp only [Act.put])
  refine wpAnyT_take (i := 3) (v := ?v3rc1q2) rfl (by kernel_rfl) (fun _ _ _ h => h) (by rfl) hHeld ?h3rc1q2 ?_
  case h3rc1q2 => (intro w' hSw; (try dsimp only at hSw); go_simp; try with_reducible rfl)
  (try simp only [Act.put])
  clear hHeld
  refine wpAnyT_one (i := 1) rfl (by kernel_rfl) (fun K hK => ?_)
  go_simp
  go_at_call 54
  refine (HTH.out _ HD0.out).mono ?_
  rintro e w3 ⟨gu, rfl, hgu, hb3, hpr⟩
  have HB3 := Lib.hid (bt HD0.out (Nat.le_refl _) hb3)
  have HPR := Lib.hid hpr
  clear hpr hb3
  refine hK.out _ _ (fun _ => HC.out _ HB3.out) ?_
  clear hK K
  (try simp only [Act.put, zA, zB, zC])
  refine wpAnyT_one (i := 4) rfl (by kernel_rfl) (fun K hK => ?_)
  go_simp
  go_at_call 55
  refine (HRO.out _ HB3.out).mono ?_
  rintro e w4 ⟨v, rfl, hb4, ho4⟩
  obtain ⟨Av, cv, rfl⟩ := own_slice1 ho4
  have HB4 := Lib.hid (bt HB3.out (Nat.le_refl _) hb4)
  have HO4 := Lib.hid (own_rowe lenI (by rw [flat_ints]; exact ho4))
  have HPR4 : Hid (Prs w4 gu (thruU C)) := Lib.hid (Blk.below HPR.out hb4 (Blk.lt HPR.out))
  refine hK.out _ _ (fun _ => HC.out _ HB4.out) ?_
  clear hK K ho4 hb4
  (try simp only [Act.put, zA, zB, zC])
  refine wpAnyT_one (i := 5) rfl (by kernel_rfl) (fun K hK => ?_)
  go_simp
  go_at_call 53
  refine (HSO.out _ gu _ HPR4.out HO4.out).mono ?_
  rintro e w5 ⟨g, rfl, hg5, hb5, ht5⟩
  have HB5 := Lib.hid (bt HB4.out (Nat.le_refl _) hb5)
  have HT5 := Lib.hid ht5
  refine hK.out _ _ (fun _ => HC.out _ HB5.out) ?_
  clear hK K hb5 ht5
  (try simp only [Act.put, zA, zB, zC])
  refine wpAnyT_one (i := 6) rfl (by kernel_rfl) (fun K hK => ?_)
  go_simp
  refine hK.out _ _ (fun _ => HC.out _ HB5.out) ?_
  clear hK K
  (try simp only [Act.put, zA, zB, zC])
  refine wpAnyT_done (by kernel_rfl) ?_
  go_wp2
  go_ret
  exact ⟨g, rfl, by have := HB4.out.size; omega, bt HB2.out (Nat.le_refl _) HB5.out, by rw [HRS.out]; exact HT5.out⟩
end Go.Proofs.Ytagffmalmkcboaa
