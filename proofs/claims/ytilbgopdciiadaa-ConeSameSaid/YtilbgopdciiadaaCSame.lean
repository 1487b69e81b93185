/- Cone: ConeSame: the walk of the statement. -/
import Derived.Test.YtilbgopdciiadaaConQ
import Derived.Test.YtilbgopdciiadaaSimQ
import Derived.Test.YtilbgopdciiadaaArgC
namespace Go.Proofs.Ytilbgopdciiadaa
open Go.RowKit Go.Maps

theorem riseB_yes {n : Int} : ∀ {L : List Int} {a : Int}, L.Pairwise (· < ·) → (∀ x ∈ L, a < x ∧ x < n) → riseB n a L = true
  | [], _, _, _ => rfl
  | y :: r, a, hp, h => by
    obtain ⟨h1, h2⟩ := List.pairwise_cons.1 hp
    have hy := h y (by simp)
    unfold riseB
    rw [if_neg (by omega)]
    exact riseB_yes h2 (fun x hx => ⟨h1 x hx, (h x (by simp [hx])).2⟩)
theorem newRowC (w : World) (old new : Array Value) (t : TypeId) : Below w.heap.size w ((w.alloc (.cells old t)).setRow w.heap.size new) ∧ ((w.alloc (.cells old t)).setRow w.heap.size new).heap[w.heap.size]? = some (.cells new t (0, 0)) ∧ ((w.alloc (.cells old t)).setRow w.heap.size new).heap.size = w.heap.size + 1 := by
  have h1 : Below w.heap.size w (w.alloc (.cells old t)) := (Below.refl _ _).alloc (Nat.le_refl _) _
  have h2 : (w.alloc (.cells old t)).heap[w.heap.size]? = some (.cells old t (0, 0)) := Blk.new w t old
  exact ⟨⟨h1.os, h1.tape, h1.output, by rw [size_setRow]; exact h1.size, fun k hk => (setRow_other _ _ _ _ (by omega)).trans (h1.block k hk)⟩, setRow_heap _ _ _ _ _ _ h2, by rw [size_setRow]; simp⟩
theorem CutR.in_ {B : Nat} {w : World} {V : CV} {lv iv tv : Value} {C : Circ} {s : List Bool} {a : Nat} (h : CutR B w V lv iv tv C s a) : (cutX C s a).In w V := by
  refine ⟨own_rowe lenI (by rw [flat_ints]; exact h.i), own_rowe lenT h.l, ?_, own_rowe lenI (by rw [flat_ints]; exact h.b), own_rowe lenI (by rw [flat_ints]; exact h.c), ?_, ?_, own_rowe lenT h.a, ?_, ?_⟩
  · rw [h.zo]; exact rowe_nilC
  · rw [h.zj]; exact lists_nilC
  · rw [h.zf]; exact rowe_nilC
  · rw [h.zs]; exact rowe_nilC
  · rw [h.zt]; exact rowe_nilC
theorem cutR_one {B : Nat} {w : World} {V : CV} {lv iv tv : Value} {C : Circ} {s : List Bool} {a : Nat} (h : CutR B w V lv iv tv C s a) (m : Int) : (cutCells V m lv iv tv).all (·.oneCell') = true := by
  obtain ⟨_, _, e0⟩ := own_slice1 h.i
  obtain ⟨_, _, e1⟩ := own_slice1 h.l
  obtain ⟨_, _, e3⟩ := own_slice1 h.b
  obtain ⟨_, _, e4⟩ := own_slice1 h.c
  obtain ⟨_, _, e7⟩ := own_slice1 h.a
  obtain ⟨_, _, e10⟩ := own_slice1 h.iv
  obtain ⟨_, _, e11⟩ := own_slice1 h.tv
  obtain ⟨g, e12, _⟩ := h.m
  simp only [cutCells]
  rw [e0, e1, e3, e4, e7, e10, e11, e12, h.zo, h.zj, h.zf, h.zs, h.zt]
  simp [Value.oneCell']
/-- Run's answer as a row of moments. -/
theorem RunRow_any (w : World) (V : CV) (C : Circ) (U : TV) (t : Tr) (O : List Int) (h : C.In w V) (ok : C.Ok) (rm : C.Room) (ht : t.In w U) (hz : (checkR C).2 = 0) (hO : IsOrd C O) (hf : fitsB C t = true) :
    Calls Try.prog 32 #[V.val C.max, U.val t.loop] w fun e w' => Below w.heap.size w w' ∧ ∃ A c, e = .returned (.tuple #[.slice A t.rows.length c, .int .i64 0]) ∧ MomRow w' (.slice A t.rows.length c) (momsG C O t.init t.rows) := by
  have hE := runE_yes hz hf
  refine (Run_any w V C U t O h ok rm ht (fun _ => hO)).mono ?_
  rintro e w' ⟨hb, v, rfl, _, hy⟩
  obtain ⟨gm, xs, rfl, _, hm, hms⟩ := hy hE
  refine ⟨hb, some ⟨gm, 0, none⟩, t.rows.length, by rw [hE], momRow_of hm hms (momsG_len C O t.rows t.init) ?_⟩
  have := (fits_of hf).n2
  simp only [maxLen]
  omega
theorem RunNo_any (w : World) (V : CV) (C : Circ) (U : TV) (t : Tr) (h : C.In w V) (ok : C.Ok) (rm : C.Room) (ht : t.In w U) (O : List Int) (hO : (checkR C).2 = 0 → IsOrd C O) (hE : runE C t ≠ 0) :
    Calls Try.prog 32 #[V.val C.max, U.val t.loop] w fun e w' => Below w.heap.size w w' ∧ e = .returned (.tuple #[.slice none 0 0, .int .i64 (runE C t)]) := by
  refine (Run_any w V C U t O h ok rm ht hO).mono ?_
  rintro e w' ⟨hb, v, rfl, hn, _⟩
  exact ⟨hb, by rw [hn hE]⟩

set_option maxHeartbeats 20000000 in
set_option maxRecDepth 100000 in
theorem coneSame_walk (w : World) (V : CV) (C : Circ) (at_ : Int) (U : TV) (t : Tr) (h : C.In w V) (ok : C.Ok) (rm : C.Room ∧ C.Reach) (_hw : I64 at_) (hu : t.In w U) (_hur : t.Reach) :
    Calls Try.prog 6 #[V.val C.max, .int .i64 at_, U.val t.loop] w fun e w' => e = .returned (.bool true) ∧ Below w.heap.size w w' := by
  obtain ⟨rm, _⟩ := rm
  obtain ⟨O, hO⟩ := ord_ex h ok
  obtain ⟨W1, hW1⟩ : ∃ W1, (w.alloc (.cells (V.cells C.max) 29)).alloc (.cells (U.cells t.loop) 53) = W1 := ⟨_, rfl⟩
  have hb1 : Below w.heap.size w W1 := by rw [← hW1]; exact ((Below.refl _ _).alloc (Nat.le_refl _) _).alloc (by simp) _
  have HALL : Hid (∀ wz, Below W1.heap.size W1 wz → wz.heap[w.heap.size]? = some (.cells (V.cells C.max) 29 (0, 0)) ∧ wz.heap[w.heap.size + 1]? = some (.cells (U.cells t.loop) 53 (0, 0)) ∧ C.In wz V ∧ t.In wz U ∧ Below w.heap.size w wz) := Lib.hid (fun wz hb => by
    have h1 : Blk W1 w.heap.size 29 (V.cells C.max) := by rw [← hW1]; exact (Blk.new w _ _).alloc _
    have h2 : Blk W1 (w.heap.size + 1) 53 (U.cells t.loop) := by
      rw [← hW1]
      have := Blk.new (w.alloc (.cells (V.cells C.max) 29)) 53 (U.cells t.loop)
      simpa using this
    have h3 := hb1.trans (hb.mono hb1.size)
    exact ⟨h1.below hb h1.lt, h2.below hb h2.lt, h.below h3, hu.below h3, h3⟩)
  have HWK := Lib.hid (fun wz => worksC_any wz)
  have HOF := Lib.hid (fun (wx : World) (hx : C.In wx V) => OfB_any wx V C at_ hx ok)
  have HW1 := Lib.hid hW1
  obtain ⟨lp, hlp⟩ : ∃ l, t.loop = l := ⟨_, rfl⟩
  by_cases hp : propsE C [(98, at_)] = 0
  · obtain ⟨hz, hpr⟩ := propsE_ok hp
    obtain ⟨ha0, ha1⟩ := hasP_bad (hpr (98, at_) (by simp))
    have hO1 := hO hz
    obtain ⟨an, han⟩ : ∃ n, at_.toNat = n := ⟨_, rfl⟩
    rw [han] at ha1
    have hat : at_ = (an : Int) := by omega
    have hk := cutF_of hz ha1
    obtain ⟨s, hs⟩ : ∃ s, conB C an = s := ⟨_, rfl⟩
    rw [hs] at hk
    have hXz := cut_check hz hO1 hk ha1
    have hf := fine_of hz
    have hrt := right_of hz
    have hXr := right_of hXz
    have hXok : (cutX C s an).Ok := hXr.ok (fun z hz => by cases hz) (fun z hz => by cases hz)
    have hXrm : (cutX C s an).Room := ⟨by have := hXr.ni; omega, by have := hXr.nl; omega, by have := hXr.no; omega, by have := hXr.nb; omega, by have := hXr.nc; omega, by have := hXr.nj; omega, fun zs hz => (by cases hz), by have := hXr.nf; omega, by have := hXr.na; omega, by have := hXr.ns; omega, by have := hXr.nt; omega⟩
    have hIn := numsF_lt s C.inputs 0
    have hLn := numsF_lt s (C.latches.map (·.1)) 0
    have HLL : Hid ((cutLn C s).length = (cutX C s an).latches.length ∧ (cutIn C s).length = (cutX C s an).inputs.length) := Lib.hid (by
      constructor
      · show _ = ((cutL C s).map _).length
        rw [List.length_map]
        exact selF_len _ _ _ _
      · show _ = ((cutI C s).map _).length
        rw [List.length_map, cutIn_eq]
        exact selF_len _ _ _ _)
    have HTRE : Hid (fitsB (cutX C s an) t = true → traE C (cutIn C s) (cutLn C s) t = 0 ∧ traR C (cutIn C s) (cutLn C s) t = backT C (cutIn C s) (cutLn C s) t ∧ fitsB C (backT C (cutIn C s) (cutLn C s) t) = true ∧ t.init.length = (cutLn C s).length ∧ (∀ r ∈ t.rows, r.length = (cutIn C s).length) ∧ t.rows.length ≤ 512) := Lib.hid (fun hfb => by
      have hF := fits_of hfb
      have e1 : t.init.length = (cutLn C s).length := by rw [HLL.out.1]; exact hF.i
      have e2 : ∀ r ∈ t.rows, r.length = (cutIn C s).length := fun r hr => by rw [HLL.out.2]; exact hF.r r hr
      have e3 : t.rows.length ≤ 512 := hF.n2
      have e0 : traE C (cutIn C s) (cutLn C s) t = 0 := by
        unfold traE
        rw [if_neg (by simp [hz]), if_pos ⟨riseB_yes hIn.2 (fun x hx => by have := hIn.1 x hx; simp at this; omega), riseB_yes hLn.2 (fun x hx => by have := hLn.1 x hx; simp at this; omega), fitC_ok e1 e3 e2⟩]
      refine ⟨e0, by unfold traR; rw [if_pos e0], ?_, e1, e2, e3⟩
      have hl := (cut_init (C := C) (s := s) t e1).2
      have hrw : rowsB C (backT C (cutIn C s) (cutLn C s) t).rows = true := by
        unfold rowsB
        rw [List.all_eq_true]
        intro r hr
        obtain ⟨y, _, rfl⟩ := List.mem_map.1 (show r ∈ t.rows.map _ from hr)
        have : (backR C (cutIn C s) y).length = C.inputs.length := by unfold backR; rw [putS_len]; simp
        simpa using this
      have hrl : (backT C (cutIn C s) (cutLn C s) t).rows.length = t.rows.length := by show (t.rows.map _).length = _; simp
      have h5 := hfb
      unfold fitsB at h5 ⊢
      rw [hl, hrl, hrw]
      simp only [Bool.and_eq_true, decide_eq_true_eq, Bool.true_and] at h5 ⊢
      exact ⟨trivial, h5.2.1, h5.2.2.1, h5.2.2.2.2⟩)
    have HMO : Hid (∀ P, IsOrd (cutX C s an) P → t.init.length = (cutLn C s).length → (∀ r ∈ t.rows, r.length = (cutIn C s).length) → ∀ (i : Nat) (m' m : Mom), (momsG (cutX C s an) P t.init t.rows)[i]? = some m' → (momsG C O (backT C (cutIn C s) (cutLn C s) t).init (backT C (cutIn C s) (cutLn C s) t).rows)[i]? = some m → SameM C s an m' m) := Lib.hid (fun P hP e1 e2 i m' m h1 h2 => by
      obtain ⟨q1, q2⟩ := cut_init (C := C) (s := s) t e1
      rw [← q1] at h1
      exact cut_moms hz hO1 hk ha1 hXz hP t.rows _ q2 e2 i m' m h1 h2)
    have HST : Hid (t.init.length = (cutLn C s).length → startsF C (backT C (cutIn C s) (cutLn C s) t).init = startsF (cutX C s an) t.init) := Lib.hid (fun e => cut_starts hf t e)
    have HXC := Lib.hid (fun (wx : World) (X : CV) (hx : (cutX C s an).In wx X) => Check_any wx X (cutX C s an) hx hXok)
    obtain ⟨c1, hc1⟩ : ∃ c, checkR (cutX C s an) = (c, 0) := ⟨(checkR (cutX C s an)).1, by rw [← hXz]⟩
    rw [hc1] at HXC
    have HTR := Lib.hid (fun (wx : World) (X : CV) (mx : Int) (lv iv tv : Value) (hx : C.In wx V) (hi : RowE 1 encI wx iv (cutIn C s)) (ht : RowE 1 encI wx tv (cutLn C s)) (hu : t.In wx U) => coneTrace_any wx V C X mx lv iv tv (cutIn C s) (cutLn C s) U t hx ok hi ht hu)
    have HS1 := Lib.hid (fun (wx : World) (X : CV) (sv : Value) (hx : (cutX C s an).In wx X) (hs : RowE 1 encO wx sv t.init) => Starts_any wx X (cutX C s an) sv t.init hx hXok hs)
    have HS2 := Lib.hid (fun (wx : World) (sv : Value) (st : List Bool) (hx : C.In wx V) (hs : RowE 1 encO wx sv st) => Starts_any wx V C sv st hx ok hs)
    have HZZ := Lib.hid (And.intro hz (And.intro hXz hO1))
    have HXOK := Lib.hid (And.intro hXok hXrm)
    have HRM := Lib.hid (And.intro ok rm)
    have HNLX : Hid ((cutX C s an).latches.length ≤ 16384 ∧ C.latches.length ≤ 16384 ∧ (∀ n ∈ cutLn C s, 0 ≤ n ∧ n < (C.latches.length : Int))) := Lib.hid ⟨hXr.nl, hrt.nl, fun n hn => by have := hLn.1 n hn; simp at this; omega⟩
    obtain ⟨mx, hmx⟩ : ∃ m, (cutX C s an).max = m := ⟨_, rfl⟩
    rw [hp, han, hs, hmx] at HOF
    rw [hmx] at HXC HS1
    have HMX := Lib.hid hmx
    have HLP := Lib.hid hlp
    have HAT := Lib.hid hat
    rw [hlp] at HALL HW1 HTR ⊢
    clear h ok rm hO hb1 hW1 hp hpr hz ha0 hO1 hk hXz hf hrt hXr hXok hXrm hIn hLn hmx hlp hc1 hs han hat hu
    dsimp only [TV.val, TV.cells] at HALL HW1 HTR ⊢
    go_enter Try.func6, Try.ntmps6
    go_upto_region 1 with (fail)
    rw [HW1.out]
    go_upto_region 3 with (go_at_call 21; refine (HWK.out _).mono ?_; rintro e w2 ⟨rfl, hb2⟩; have HB2 := Lib.hid hb2; clear hb2)
    have HC2 := Lib.hid (HALL.out w2 HB2.out)
    go_upto_region 4 with (first
      | (refine wpList_load_row rfl 29 (.tmp 3) rfl (w.heap.size) rfl 29 (V.cells C.max) (0, 0) _ HC2.out.1 Try.underlying29 rfl (by kernel_rfl) ?_)
      | (go_at_call 16; refine (HOF.out w2 HC2.out.2.2.1).mono ?_; rintro e wA ⟨hbA, cs, rfl, _, hy⟩; obtain ⟨X, lv, iv, tv, rfl, hcut⟩ := hy (by first | rfl | trivial); obtain ⟨Xi, Xl, Xo, Xb, Xc, Xj, Xf, Xa, Xs, Xt⟩ := X; obtain ⟨Ab, cb, hXb⟩ := own_slice1 hcut.b; replace hXb : Xb = .slice Ab 1 cb := hXb; subst hXb; have HBA := Lib.hid (bt HB2.out (Nat.le_refl _) hbA); have HCUT := Lib.hid hcut; have HNA := Lib.hid (Blk.new wA 43 #[.int .i64 0, .slice none 0 0, .slice none 0 0, .slice none 0 0, .slice none 0 0, .slice none 0 0, .slice none 0 0, .slice none 0 0, .slice none 0 0, .slice none 0 0, .slice none 0 0, .slice none 0 0, .slice none 0 0, .slice none 0 0]); have HONE : Hid ((cutCells ⟨Xi, Xl, Xo, .slice Ab 1 cb, Xc, Xj, Xf, Xa, Xs, Xt⟩ mx lv iv tv).all (·.oneCell') = true) := Lib.hid (cutR_one hcut mx); clear hbA hcut)
      | (refine wpList_store_row rfl 43 (.tmp 7) (.tmp 32) rfl wA.heap.size (cutCells ⟨Xi, Xl, Xo, .slice Ab 1 cb, Xc, Xj, Xf, Xa, Xs, Xt⟩ mx lv iv tv) rfl rfl 43 _ HNA.out (by kernel_rfl) rfl HONE.out ?_))
    have hnr := newRowC wA #[.int .i64 0, .slice none 0 0, .slice none 0 0, .slice none 0 0, .slice none 0 0, .slice none 0 0, .slice none 0 0, .slice none 0 0, .slice none 0 0, .slice none 0 0, .slice none 0 0, .slice none 0 0, .slice none 0 0, .slice none 0 0] (cutCells ⟨Xi, Xl, Xo, .slice Ab 1 cb, Xc, Xj, Xf, Xa, Xs, Xt⟩ mx lv iv tv) 43
    obtain ⟨W4, hW4⟩ : ∃ W4, (wA.alloc (.cells #[.int .i64 0, .slice none 0 0, .slice none 0 0, .slice none 0 0, .slice none 0 0, .slice none 0 0, .slice none 0 0, .slice none 0 0, .slice none 0 0, .slice none 0 0, .slice none 0 0, .slice none 0 0, .slice none 0 0, .slice none 0 0] 43)).setRow wA.heap.size (cutCells ⟨Xi, Xl, Xo, .slice Ab 1 cb, Xc, Xj, Xf, Xa, Xs, Xt⟩ mx lv iv tv) = W4 := ⟨_, rfl⟩
    rw [hW4] at hnr
    rw [hW4]
    have HNR := Lib.hid hnr
    clear hW4 hnr HNA
    have HA4 : Hid (∀ wz, Below W4.heap.size W4 wz → Below W1.heap.size W1 wz ∧ (wz.cell? ⟨wA.heap.size, 0, none⟩ = some (.int .i64 mx) ∧ wz.cell? ⟨wA.heap.size, 1, none⟩ = some (Xi) ∧ wz.cell? ⟨wA.heap.size, 2, none⟩ = some (Xl) ∧ wz.cell? ⟨wA.heap.size, 3, none⟩ = some (Xo) ∧ wz.cell? ⟨wA.heap.size, 4, none⟩ = some (.slice Ab 1 cb) ∧ wz.cell? ⟨wA.heap.size, 5, none⟩ = some (Xc) ∧ wz.cell? ⟨wA.heap.size, 6, none⟩ = some (Xj) ∧ wz.cell? ⟨wA.heap.size, 7, none⟩ = some (Xf) ∧ wz.cell? ⟨wA.heap.size, 8, none⟩ = some (Xa) ∧ wz.cell? ⟨wA.heap.size, 9, none⟩ = some (Xs) ∧ wz.cell? ⟨wA.heap.size, 10, none⟩ = some (Xt) ∧ wz.cell? ⟨wA.heap.size, 11, none⟩ = some (lv) ∧ wz.cell? ⟨wA.heap.size, 12, none⟩ = some (iv) ∧ wz.cell? ⟨wA.heap.size, 13, none⟩ = some (tv)) ∧ (cutX C s an).In wz ⟨Xi, Xl, Xo, .slice Ab 1 cb, Xc, Xj, Xf, Xa, Xs, Xt⟩ ∧ RowE 1 encI wz iv (cutIn C s) ∧ RowE 1 encI wz tv (cutLn C s) ∧ wz.heap[wA.heap.size]? = some (.cells (cutCells ⟨Xi, Xl, Xo, .slice Ab 1 cb, Xc, Xj, Xf, Xa, Xs, Xt⟩ mx lv iv tv) 43 (0, 0))) := Lib.hid (fun wz hb => by
      have h1 := bt HNR.out.1 (Nat.le_refl _) hb
      have h2 : Blk wz wA.heap.size 43 (cutCells ⟨Xi, Xl, Xo, .slice Ab 1 cb, Xc, Xj, Xf, Xa, Xs, Xt⟩ mx lv iv tv) := (hb.block _ (by have := HNR.out.2.2; omega)).trans HNR.out.2.1
      have hc := HCUT.out
      exact ⟨bt HBA.out (Nat.le_refl _) h1, cells14 h2, hc.in_.below h1, (own_rowe lenI (by rw [flat_ints]; exact hc.iv) : RowE 1 encI wA iv (cutIn C s)).below h1, (own_rowe lenI (by rw [flat_ints]; exact hc.tv) : RowE 1 encI wA tv (cutLn C s)).below h1, h2⟩)
    have HC4 := Lib.hid (HA4.out W4 (Below.refl _ _))
    obtain ⟨k0, k1, k2, k3, k4, k5, k6, k7, k8, k9, k10, k11, k12, k13⟩ := HC4.out.2.1
    go_upto_region 7 with (go_at_call 31; refine (HXC.out W4 ⟨Xi, Xl, Xo, .slice Ab 1 cb, Xc, Xj, Xf, Xa, Xs, Xt⟩ HC4.out.2.2.1).mono ?_; rintro e w5 ⟨rfl, hb5⟩; have HB5 := Lib.hid hb5; clear hb5)
    have HC5 := Lib.hid (HA4.out w5 HB5.out)
    clear k0 k1 k2 k3 k4 k5 k6 k7 k8 k9 k10 k11 k12 k13
    obtain ⟨k0, k1, k2, k3, k4, k5, k6, k7, k8, k9, k10, k11, k12, k13⟩ := HC5.out.2.1
    go_upto_region 9 with (fail)
    have HC5a := Lib.hid (HALL.out w5 HC5.out.1)
    obtain ⟨fb, hfb⟩ : ∃ b, fitsB (cutX C s an) t = b := ⟨_, rfl⟩
    obtain ⟨P, hP⟩ := ord_ex HC5.out.2.2.1 HXOK.out.1
    have HP := Lib.hid (hP HZZ.out.2.1)
    clear hP
    obtain ⟨d0, d1, d2⟩ : w5.cell? ⟨w.heap.size + 1, 0, none⟩ = some U.i ∧ w5.cell? ⟨w.heap.size + 1, 1, none⟩ = some U.r ∧ w5.cell? ⟨w.heap.size + 1, 2, none⟩ = some (.int .i64 lp) := by
      have h2 : Blk w5 (w.heap.size + 1) 53 #[U.i, U.r, .int .i64 lp] := HC5a.out.2.1
      exact ⟨h2.cell 0, h2.cell 1, h2.cell 2⟩
    cases fb with
    | false =>
      have hE4 : runE (cutX C s an) t = 4 := runE_not HZZ.out.2.1 hfb
      have HRN := Lib.hid (RunNo_any w5 ⟨Xi, Xl, Xo, .slice Ab 1 cb, Xc, Xj, Xf, Xa, Xs, Xt⟩ (cutX C s an) U t HC5.out.2.2.1 HXOK.out.1 HXOK.out.2 HC5a.out.2.2.2.1 P (fun _ => HP.out) (by rw [hE4]; decide))
      rw [hE4, HMX.out, HLP.out] at HRN
      clear hfb hE4
      go_upto_region 10 with (go_at_call 32; refine HRN.out.mono ?_; rintro e w6 ⟨hb6, rfl⟩; have HB6 := Lib.hid (bt HB5.out (Nat.le_refl _) hb6); clear hb6)
      clear k0 k1 k2 k3 k4 k5 k6 k7 k8 k9 k10 k11 k12 k13 d0 d1 d2
      go_wp2
      go_ret
      exact ⟨rfl, (HALL.out w6 (HA4.out w6 HB6.out).1).2.2.2.2⟩
    | true =>
      obtain ⟨e0, eR, efb, e1, e2, e3⟩ := HTRE.out hfb
      have HF := Lib.hid (fits_of hfb)
      have HRY := Lib.hid (RunRow_any w5 ⟨Xi, Xl, Xo, .slice Ab 1 cb, Xc, Xj, Xf, Xa, Xs, Xt⟩ (cutX C s an) U t P HC5.out.2.2.1 HXOK.out.1 HXOK.out.2 HC5a.out.2.2.2.1 HZZ.out.2.1 HP.out hfb)
      rw [HMX.out, HLP.out] at HRY
      rw [e0, eR] at HTR
      have HMOM := Lib.hid (HMO.out P HP.out e1 e2)
      have HSTA := Lib.hid (HST.out e1)
      have HE1 := Lib.hid e1
      obtain ⟨bk, hbk⟩ : ∃ bk, backT C (cutIn C s) (cutLn C s) t = bk := ⟨_, rfl⟩
      have hbl : bk.loop = lp := by rw [← hbk]; exact HLP.out
      have hbr : bk.rows.length = t.rows.length := by rw [← hbk]; show (t.rows.map _).length = _; simp
      rw [hbk] at HTR HMOM HSTA efb
      rw [hbl] at HTR
      obtain ⟨n, hn⟩ : ∃ n, t.rows.length = n := ⟨_, rfl⟩
      have hn5 : n ≤ 512 := by rw [← hn]; exact e3
      rw [hn] at HRY hbr
      have HRB := Lib.hid (fun (wx : World) (Y : TV) (hx : C.In wx V) (hy : bk.In wx Y) => RunRow_any wx V C Y bk O hx HRM.out.1 HRM.out.2 hy HZZ.out.1 HZZ.out.2.2 efb)
      rw [hbl, hbr] at HRB
      have HBI : Hid (bk.init.length = C.latches.length) := Lib.hid (by rw [← hbk]; exact (cut_init (C := C) (s := s) t e1).2)
      have hs1 : startE (cutX C s an) t.init = 0 := startE_ok HZZ.out.2.1 (by rw [e1]; exact HLL.out.1)
      have hs2 : startE C bk.init = 0 := startE_ok HZZ.out.1 HBI.out
      have hs3 : startB C bk.init = startB (cutX C s an) t.init := by rw [startB_ok hs1, startB_ok hs2]; exact HSTA.out
      rw [hs1] at HS1
      have HS2B := Lib.hid (fun (wx : World) (sv : Value) (hx : C.In wx V) (hs : RowE 1 encO wx sv bk.init) => HS2.out wx sv bk.init hx hs)
      rw [hs2, hs3] at HS2B
      obtain ⟨sb, hsb⟩ : ∃ b, startB (cutX C s an) t.init = b := ⟨_, rfl⟩
      rw [hsb] at HS1 HS2B
      have hbr2 : bk.rows.length = t.rows.length := hbr.trans hn.symm
      clear hfb e0 eR efb e1 e2 e3 hbk hbl hs1 hs2 hs3 hsb HS2 HTRE HMO HST hbr
      go_upto_region 10 with (go_at_call 32; refine HRY.out.mono ?_; rintro e w6 ⟨hb6, Aa, ca, rfl, hma⟩; have HB6 := Lib.hid (bt HB5.out (Nat.le_refl _) hb6); have HMA := Lib.hid hma; clear hb6 hma)
      clear k0 k1 k2 k3 k4 k5 k6 k7 k8 k9 k10 k11 k12 k13 d0 d1 d2
      have HC6 := Lib.hid (HA4.out w6 HB6.out)
      have HC6a := Lib.hid (HALL.out w6 HC6.out.1)
      go_upto_region 13 with (first
        | (refine wpList_load_row rfl 29 (.tmp 3) rfl (w.heap.size) rfl 29 (V.cells C.max) (0, 0) _ HC6a.out.1 Try.underlying29 rfl (by kernel_rfl) ?_)
        | (refine wpList_load_row rfl 43 (.tmp 7) rfl (wA.heap.size) rfl 43 (cutCells ⟨Xi, Xl, Xo, .slice Ab 1 cb, Xc, Xj, Xf, Xa, Xs, Xt⟩ mx lv iv tv) (0, 0) _ HC6.out.2.2.2.2.2 Try.underlying43 rfl (by kernel_rfl) ?_)
        | (refine wpList_load_row rfl 53 (.tmp 5) rfl (w.heap.size + 1) rfl 53 (#[U.i, U.r, .int .i64 lp]) (0, 0) _ HC6a.out.2.1 Try.underlying53 rfl (by kernel_rfl) ?_)
        | (go_at_call 24; refine (HTR.out w6 ⟨Xi, Xl, Xo, .slice Ab 1 cb, Xc, Xj, Xf, Xa, Xs, Xt⟩ mx lv iv tv HC6a.out.2.2.1 HC6.out.2.2.2.1 HC6.out.2.2.2.2.1 HC6a.out.2.2.2.1).mono ?_; rintro e w7 ⟨hb7, Y, rfl, hot⟩; have HB7 := Lib.hid hb7; have HOT := Lib.hid hot; have HN7 := Lib.hid (Blk.new w7 53 #[.slice none 0 0, .slice none 0 0, .int .i64 0]); have HONT : Hid ((Y.cells lp).all (·.oneCell') = true) := Lib.hid (own_oneT hot lp); clear hb7 hot)
        | (refine wpList_store_row rfl 53 (.tmp 13) (.tmp 77) rfl w7.heap.size (Y.cells lp) rfl rfl 53 _ HN7.out (by kernel_rfl) rfl HONT.out ?_))
      have hnr := newRowC w7 #[.slice none 0 0, .slice none 0 0, .int .i64 0] (Y.cells lp) 53
      obtain ⟨W8, hW8⟩ : ∃ W8, (w7.alloc (.cells #[.slice none 0 0, .slice none 0 0, .int .i64 0] 53)).setRow w7.heap.size (Y.cells lp) = W8 := ⟨_, rfl⟩
      rw [hW8] at hnr
      rw [hW8]
      have HNR8 := Lib.hid hnr
      clear hW8 hnr HN7
      have HA8 : Hid (∀ wz, Below W8.heap.size W8 wz → Below w6.heap.size w6 wz ∧ wz.heap[w7.heap.size]? = some (.cells (Y.cells lp) 53 (0, 0)) ∧ bk.In wz Y) := Lib.hid (fun wz hb => by
        have h1 := bt HNR8.out.1 (Nat.le_refl _) hb
        exact ⟨bt HB7.out (Nat.le_refl _) h1, (hb.block _ (by have := HNR8.out.2.2; omega)).trans HNR8.out.2.1, HOT.out.in_.below h1⟩)
      have HTO4 : Hid (∀ wz, Below W8.heap.size W8 wz → Below W4.heap.size W4 wz ∧ Below W1.heap.size W1 wz) := Lib.hid (fun wz hb => by
        have h1 := bt HB6.out (Nat.le_refl _) (HA8.out wz hb).1
        exact ⟨h1, (HA4.out wz h1).1⟩)
      have HC8 := Lib.hid (HA8.out W8 (Below.refl _ _))
      have HC8a := Lib.hid (HALL.out W8 (HTO4.out W8 (Below.refl _ _)).2)
      go_upto_region 16 with (first
        | (refine wpList_load_row rfl 29 (.tmp 3) rfl (w.heap.size) rfl 29 (V.cells C.max) (0, 0) _ HC8a.out.1 Try.underlying29 rfl (by kernel_rfl) ?_)
        | (refine wpList_load_row rfl 53 (.tmp 13) rfl (w7.heap.size) rfl 53 (Y.cells lp) (0, 0) _ HC8.out.2.1 Try.underlying53 rfl (by kernel_rfl) ?_)
        | (go_at_call 32; refine (HRB.out W8 Y HC8a.out.2.2.1 HC8.out.2.2).mono ?_; rintro e w9 ⟨hb9, Ac, cc, rfl, hmb⟩; have HB9 := Lib.hid hb9; have HMB := Lib.hid hmb; clear hb9 hmb))
      have HC9 := Lib.hid (HA4.out w9 (HTO4.out w9 HB9.out).1)
      have HC9a := Lib.hid (HALL.out w9 (HTO4.out w9 HB9.out).2)
      obtain ⟨k0, k1, k2, k3, k4, k5, k6, k7, k8, k9, k10, k11, k12, k13⟩ := HC9.out.2.1
      obtain ⟨d0, d1, d2⟩ : w9.cell? ⟨w.heap.size + 1, 0, none⟩ = some U.i ∧ w9.cell? ⟨w.heap.size + 1, 1, none⟩ = some U.r ∧ w9.cell? ⟨w.heap.size + 1, 2, none⟩ = some (.int .i64 lp) := by
        have h2 : Blk w9 (w.heap.size + 1) 53 #[U.i, U.r, .int .i64 lp] := HC9a.out.2.1
        exact ⟨h2.cell 0, h2.cell 1, h2.cell 2⟩
      go_upto_region 17 with (go_at_call 33; refine (HS1.out w9 ⟨Xi, Xl, Xo, .slice Ab 1 cb, Xc, Xj, Xf, Xa, Xs, Xt⟩ U.i HC9.out.2.2.1 HC9a.out.2.2.2.1.i).mono ?_; rintro e w10 ⟨rfl, hb10⟩; have HB10 := Lib.hid (bt HB9.out (Nat.le_refl _) hb10); have HB910 := Lib.hid hb10; clear hb10)
      clear k0 k1 k2 k3 k4 k5 k6 k7 k8 k9 k10 k11 k12 k13 d0 d1 d2
      have HC10 := Lib.hid (HA8.out w10 HB10.out)
      have HC10a := Lib.hid (HALL.out w10 (HTO4.out w10 HB10.out).2)
      obtain ⟨f0, f1, f2⟩ : w10.cell? ⟨w7.heap.size, 0, none⟩ = some Y.i ∧ w10.cell? ⟨w7.heap.size, 1, none⟩ = some Y.r ∧ w10.cell? ⟨w7.heap.size, 2, none⟩ = some (.int .i64 lp) := by
        have h2 : Blk w10 w7.heap.size 53 #[Y.i, Y.r, .int .i64 lp] := HC10.out.2.1
        exact ⟨h2.cell 0, h2.cell 1, h2.cell 2⟩
      go_upto_region 18 with (first
        | (refine wpList_load_row rfl 29 (.tmp 3) rfl (w.heap.size) rfl 29 (V.cells C.max) (0, 0) _ HC10a.out.1 Try.underlying29 rfl (by kernel_rfl) ?_)
        | (go_at_call 33; refine (HS2B.out w10 Y.i HC10a.out.2.2.1 HC10.out.2.2.i).mono ?_; rintro e w11 ⟨rfl, hb11⟩; have HB11 := Lib.hid (bt HB10.out (Nat.le_refl _) hb11); have hMB := HMB.out.below (bt HB910.out (Nat.le_refl _) hb11); clear hb11))
      clear f0 f1 f2
      have hsbb : (sb != sb) = false := by simp
      have hMA : MomRow w11 (.slice Aa n ca) (momsG (cutX C s an) P t.init t.rows) := HMA.out.below (HA8.out w11 HB11.out).1
      have hla : (momsG (cutX C s an) P t.init t.rows).length = n := by rw [momsG_len]; exact hn
      have hlb : (momsG C O bk.init bk.rows).length = n := by rw [momsG_len, ← hn]; exact hbr2
      obtain ⟨ma, hma⟩ : ∃ l, momsG (cutX C s an) P t.init t.rows = l := ⟨_, rfl⟩
      obtain ⟨mb, hmb⟩ : ∃ l, momsG C O bk.init bk.rows = l := ⟨_, rfl⟩
      rw [hma] at hMA hla HMOM
      rw [hmb] at hMB hlb HMOM
      obtain ⟨A', c', eA, _, _, hatA⟩ := hMA
      injection eA with e1 e2 e3
      subst e1
      clear e2 e3
      obtain ⟨A', c', eB, _, _, hatB⟩ := hMB
      injection eB with e1 e2 e3
      subst e1
      clear e2 e3
      have HATA := Lib.hid hatA
      have HATB := Lib.hid hatB
      have HLA := Lib.hid (And.intro hla hlb)
      have HTV : Hid (∃ At nt ct, tv = .slice At nt ct) := Lib.hid (by
        obtain ⟨A, c, e, _⟩ := HC4.out.2.2.2.2.1
        exact ⟨A, _, c, e⟩)
      have HF11 : Hid (∀ wz, Below w11.heap.size w11 wz → wz.cell? ⟨wA.heap.size, 13, none⟩ = some tv ∧ RowE 1 encI wz tv (cutLn C s) ∧ Below w.heap.size w wz) := Lib.hid (fun wz hb => by
        have h1 := HTO4.out wz (bt HB11.out (Nat.le_refl _) hb)
        exact ⟨(HA4.out wz h1.1).2.1.2.2.2.2.2.2.2.2.2.2.2.2.2, (HA4.out wz h1.1).2.2.2.2.1, (HALL.out wz h1.2).2.2.2.2⟩)
      clear hatA hatB hla hlb hma hmb hn
      go_wp2
      go_loopg [126] n (fun j iv wx => ∃ k : Nat, k ≤ n ∧ j = n - k ∧ iv = .int .i64 k ∧ Below w11.heap.size w11 wx)
      case atStart => exact ⟨0, Nat.zero_le _, rfl, rfl, Below.refl _ _⟩
      case round =>
        obtain ⟨k, hk, hgk, rfl, hbw⟩ := hrel
        subst hgk
        have HBW := Lib.hid hbw
        clear hbw
        by_cases hlt : k < n
        · obtain ⟨m1, hm1⟩ : ∃ x, ma[k]? = some x := ⟨_, List.getElem?_eq_getElem (by rw [HLA.out.1]; exact hlt)⟩
          obtain ⟨m2, hm2⟩ : ∃ x, mb[k]? = some x := ⟨_, List.getElem?_eq_getElem (by rw [HLA.out.2]; exact hlt)⟩
          have HSM := Lib.hid (HMOM.out k m1 m2 hm1 hm2)
          obtain ⟨ba, oa, xa, eA, hAa⟩ := HATA.out k m1 hm1
          obtain ⟨bb, ob, xb, eB, hAb⟩ := HATB.out k m2 hm2
          subst eA eB
          have HAA := Lib.hid hAa
          have HAB := Lib.hid hAb
          obtain ⟨ya, za, wa, va⟩ := xa
          obtain ⟨yb, zb, wb, vb⟩ := xb
          obtain ⟨b0, hb0⟩ : ∃ b, m2.holds = b := ⟨_, rfl⟩
          have hza : za = b0 := by have := HAA.out.h; simp only at this; rw [this, HSM.out.h, hb0]
          have hzb : zb = b0 := by have := HAB.out.h; simp only at this; rw [this, hb0]
          subst hza
          subst hzb
          obtain ⟨La, hLa⟩ : ∃ l, m1.bads = l := ⟨_, rfl⟩
          obtain ⟨Lb, hLb⟩ : ∃ l, m2.bads = l := ⟨_, rfl⟩
          obtain ⟨Aw, cw, ew, hlw, _, _⟩ := HAA.out.b
          obtain ⟨Av, cv, ev, hlv, hmv, hrb⟩ := HAB.out.b
          simp only at ew ev
          subst ew ev
          rw [hLa] at HAA hlw
          rw [hLb] at HAB hlv hrb
          obtain ⟨As, cs, es, hls, hms, hrs⟩ := HAA.out.s
          obtain ⟨Au, cu, eu, hlu, hmu, hru⟩ := HAB.out.s
          simp only at es eu
          subst es eu
          obtain ⟨At, ct, et, hlt', hmt, hrt⟩ := (HF11.out w11 (Below.refl _ _)).2.1
          obtain ⟨na, hna⟩ : ∃ l, La.length = l := ⟨_, rfl⟩
          obtain ⟨nb, hnb⟩ : ∃ l, Lb.length = l := ⟨_, rfl⟩
          obtain ⟨ns, hns⟩ : ∃ l, m1.st.length = l := ⟨_, rfl⟩
          obtain ⟨nu, hnu⟩ : ∃ l, m2.st.length = l := ⟨_, rfl⟩
          obtain ⟨nt, hnt⟩ : ∃ l, (cutLn C s).length = l := ⟨_, rfl⟩
          have hnb9 : nb ≤ 9223372036854775807 := by rw [← hnb]; have h1 := hlv; have h2 := hmv; simp only [maxLen] at h2; omega
          have hnt9 : nt ≤ 16384 := by rw [← hnt, HLL.out.1]; exact HNLX.out.1
          have HSS : Hid (ns = nt ∧ nu = C.latches.length ∧ nu ≤ 16384) := Lib.hid (by
            have h1 := HSM.out.s
            have h2 := HSM.out.l
            refine ⟨?_, by rw [← hnu]; exact h2, by rw [← hnu, h2]; exact HNLX.out.2.1⟩
            rw [← hns, h1, ← hnt]
            simp [subB])
          have HKF : Hid (∀ wz, Below w11.heap.size w11 wz → (wz.cell? ⟨ba, oa + k * 4, none⟩ = some (.slice As ns cs) ∧ wz.cell? ⟨ba, oa + k * 4 + 1, none⟩ = some (.bool zb) ∧ wz.cell? ⟨ba, oa + k * 4 + 2, none⟩ = some (.slice Aw na cw)) ∧ (wz.cell? ⟨bb, ob + k * 4, none⟩ = some (.slice Au nu cu) ∧ wz.cell? ⟨bb, ob + k * 4 + 1, none⟩ = some (.bool zb) ∧ wz.cell? ⟨bb, ob + k * 4 + 2, none⟩ = some (.slice Av nb cv)) ∧ wz.cell? ⟨wA.heap.size, 13, none⟩ = some (.slice At nt ct)) := Lib.hid (fun wz hb => by
            have h1 := HAA.out.below hb
            have h2 := HAB.out.below hb
            have h3 := (HF11.out wz hb).1
            rw [et, hnt] at h3
            rw [← hns, ← hna, ← hnu, ← hnb]
            have c2 := h1.c2
            have d2 := h2.c2
            simp only at c2
            simp only at d2
            exact ⟨⟨h1.c0, h1.c1, c2⟩, ⟨h2.c0, h2.c1, d2⟩, h3⟩)
          have HBR : Hid (∀ (wz : World) (q : Nat) (x : Int), Below w11.heap.size w11 wz → Lb[q]? = some x → ∃ b off, Av = some ⟨b, off, none⟩ ∧ wz.cell? ⟨b, off + q, none⟩ = some (.int .i64 x)) := Lib.hid (fun wz q x hb hx => by
            obtain ⟨b, off, e, hbl, hc⟩ := hrb q x hx
            have := (hb.cell (p := ⟨b, off + (q * 1 + 0), none⟩) hbl).trans (hc 0 _ rfl)
            simp only [Nat.mul_one, Nat.add_zero] at this
            exact ⟨b, off, e, this⟩)
          have HLR : Hid (∀ (wz : World) (q : Nat) (x : Int), Below w11.heap.size w11 wz → (cutLn C s)[q]? = some x → ∃ b off, At = some ⟨b, off, none⟩ ∧ wz.cell? ⟨b, off + q, none⟩ = some (.int .i64 x)) := Lib.hid (fun wz q x hb hx => by
            obtain ⟨b, off, e, hbl, hc⟩ := hrt q x hx
            have := (hb.cell (p := ⟨b, off + (q * 1 + 0), none⟩) hbl).trans (hc 0 _ rfl)
            simp only [Nat.mul_one, Nat.add_zero] at this
            exact ⟨b, off, e, this⟩)
          have HSR : Hid (∀ (wz : World) (q : Nat) (x : Bool), Below w11.heap.size w11 wz → m1.st[q]? = some x → ∃ b off, As = some ⟨b, off, none⟩ ∧ wz.cell? ⟨b, off + q, none⟩ = some (.bool x)) := Lib.hid (fun wz q x hb hx => by
            obtain ⟨b, off, e, hbl, hc⟩ := hrs q x hx
            have := (hb.cell (p := ⟨b, off + (q * 1 + 0), none⟩) hbl).trans (hc 0 _ rfl)
            simp only [Nat.mul_one, Nat.add_zero] at this
            exact ⟨b, off, e, this⟩)
          have HUR : Hid (∀ (wz : World) (q : Nat) (x : Bool), Below w11.heap.size w11 wz → m2.st[q]? = some x → ∃ b off, Au = some ⟨b, off, none⟩ ∧ wz.cell? ⟨b, off + q, none⟩ = some (.bool x)) := Lib.hid (fun wz q x hb hx => by
            obtain ⟨b, off, e, hbl, hc⟩ := hru q x hx
            have := (hb.cell (p := ⟨b, off + (q * 1 + 0), none⟩) hbl).trans (hc 0 _ rfl)
            simp only [Nat.mul_one, Nat.add_zero] at this
            exact ⟨b, off, e, this⟩)
          have HBD : Hid ((La = [0] ∧ at_ ∈ Lb) ∨ (La = [] ∧ at_ ∉ Lb)) := Lib.hid (by
            have h1 := HSM.out.b
            rw [hLa, hLb] at h1
            rw [HAT.out]
            exact h1)
          have HLN := Lib.hid (And.intro hna (And.intro hnb hnt))
          have HEQ : Hid (∀ (q : Nat) (x : Int), (cutLn C s)[q]? = some x → ∃ (b : Bool) (r : Nat), x = (r : Int) ∧ r < nu ∧ m1.st[q]? = some b ∧ m2.st[r]? = some b) := Lib.hid (fun q x hx => by
            have h1 := HNLX.out.2.2 x (List.mem_of_getElem? hx)
            have h2 := HSS.out.2.1
            obtain ⟨b, hb⟩ : ∃ b, m2.st[x.toNat]? = some b := ⟨_, List.getElem?_eq_getElem (by omega)⟩
            refine ⟨b, x.toNat, by omega, by omega, ?_, hb⟩
            rw [HSM.out.s]
            unfold subB
            rw [List.getElem?_map, hx]
            simp [List.getD_eq_getElem?_getD, hb])
          have hzz : (zb != zb) = false := by simp
          have hk0 : (0 : Int) ≤ (k : Int) := by omega
          have hk1 : (k : Int) < (n : Int) := by omega
          clear hm1 hm2 hAa hAb hb0 hLa hLb hlw hlv hmv hrb hls hms hrs hlu hmu hru et hlt' hmt hrt hna hnb hns hnu hnt
          obtain ⟨⟨a0, a1, a2⟩, ⟨b0, b1, b2⟩, kt⟩ := HKF.out _ HBW.out
          go_wp2
          clear a0 a1 a2 b0 b1 b2 kt
          go_loopg [135, 20] nb (fun j iv bv wx => ∃ q : Nat, q ≤ nb ∧ j = nb - q ∧ iv = .int .i64 q ∧ bv = .bool (decide (at_ ∈ Lb.take q)) ∧ Below w11.heap.size w11 wx)
          case atStart => exact ⟨0, Nat.zero_le _, rfl, rfl, by simp, HBW.out⟩
          case round =>
            obtain ⟨q, hq, hgq, rfl, rfl, hbq⟩ := hrel
            subst hgq
            have HBQ := Lib.hid hbq
            clear hbq HBW
            by_cases hlq : q < nb
            · obtain ⟨x, hx⟩ : ∃ x, Lb[q]? = some x := ⟨_, List.getElem?_eq_getElem (by rw [HLN.out.2.1]; exact hlq)⟩
              obtain ⟨lb, off, e, i0⟩ := HBR.out _ q x HBQ.out hx
              subst e
              have HST2 : Hid (decide (at_ ∈ Lb.take (q + 1)) = (decide (at_ ∈ Lb.take q) || decide (at_ = x))) := Lib.hid (by
                rw [List.take_add_one, hx]
                simp [Bool.decide_or])
              obtain ⟨d, hd⟩ : ∃ d, decide (at_ ∈ Lb.take q) = d := ⟨_, rfl⟩
              rw [hd] at HST2 ⊢
              have hq0 : (0 : Int) ≤ (q : Int) := by omega
              have hq1 : (q : Int) < (nb : Int) := by omega
              clear hx hd
              cases d with
              | true =>
                go_wp2
                go_roundg (nb - (q + 1))
                case measure => omega
                case rel => exact ⟨q + 1, by omega, rfl, by go_num, by rw [HST2.out]; rfl, HBQ.out⟩
              | false =>
                by_cases ex : at_ = x
                · have ex2 : (x == at_) = true := by simp [ex]
                  have HEX : Hid (decide (at_ = x) = true) := Lib.hid (by simp [ex])
                  clear ex
                  go_wp2
                  go_roundg (nb - (q + 1))
                  case measure => omega
                  case rel => exact ⟨q + 1, by omega, rfl, by go_num, by rw [HST2.out, HEX.out]; rfl, HBQ.out⟩
                · have ex2 : (x == at_) = false := by simpa using fun e => ex e.symm
                  have HEX : Hid (decide (at_ = x) = false) := Lib.hid (by simp [ex])
                  clear ex
                  go_wp2
                  go_roundg (nb - (q + 1))
                  case measure => omega
                  case rel => exact ⟨q + 1, by omega, rfl, by go_num, by rw [HST2.out, HEX.out]; rfl, HBQ.out⟩
            · have hq1 : ¬ (q : Int) < (nb : Int) := by omega
              have hqe : q = nb := by omega
              have hdec : decide (at_ ∈ Lb.take q) = decide (at_ ∈ Lb) := by rw [List.take_of_length_le (by rw [HLN.out.2.1]; omega)]
              rw [hdec]
              have HBD2 : Hid (Below w11.heap.size w11 wr.drew) := Lib.hid HBQ.out.drew
              obtain ⟨⟨a0, a1, a2⟩, ⟨b0, b1, b2⟩, kt⟩ := HKF.out _ HBQ.out
              obtain ⟨bd, hbd, hab⟩ : ∃ bd : Bool, decide (at_ ∈ Lb) = bd ∧ ((bd = true ∧ na = 1) ∨ (bd = false ∧ na = 0)) := by
                have hl := HLN.out.1
                rcases HBD.out with ⟨h1, h2⟩ | ⟨h1, h2⟩
                · rw [h1] at hl
                  exact ⟨true, by simp [h2], .inl ⟨rfl, hl.symm⟩⟩
                · rw [h1] at hl
                  exact ⟨false, by simp [h2], .inr ⟨rfl, hl.symm⟩⟩
              rw [hbd]
              clear hqe hdec hbd
              rcases hab with ⟨rfl, hna⟩ | ⟨rfl, hna⟩
              · subst hna
                go_upto_region 29 with (fail)
                go_region
                clear a0 a1 a2 b0 b1 b2 kt
                obtain ⟨⟨a0, a1, a2⟩, ⟨b0, b1, b2⟩, kt⟩ := HKF.out _ HBD2.out
                go_wp2
                clear a0 a1 a2 b0 b1 b2 kt
                go_loopg [180] nt (fun j iv wx => ∃ q : Nat, q ≤ nt ∧ j = nt - q ∧ iv = .int .i64 q ∧ Below w11.heap.size w11 wx)
                case atStart => exact ⟨0, Nat.zero_le _, rfl, rfl, HBD2.out⟩
                case round =>
                  obtain ⟨q2, hq2, hgq2, rfl, hbq2⟩ := hrel
                  subst hgq2
                  have HBQ2 := Lib.hid hbq2
                  have HBQ3 : Hid (Below w11.heap.size w11 wr.drew) := Lib.hid hbq2.drew
                  clear hbq2 HBQ HBD2
                  by_cases hlq2 : q2 < nt
                  · obtain ⟨x, hx⟩ : ∃ x, (cutLn C s)[q2]? = some x := ⟨_, List.getElem?_eq_getElem (by rw [HLN.out.2.2]; exact hlq2)⟩
                    obtain ⟨bv, r, rfl, hru, hs1, hs2⟩ := HEQ.out q2 x hx
                    obtain ⟨lb, off, e, i0⟩ := HLR.out _ q2 _ HBQ2.out hx
                    subst e
                    obtain ⟨l1, o1, e, i1⟩ := HSR.out _ q2 _ HBQ2.out hs1
                    subst e
                    obtain ⟨l2, o2, e, i2⟩ := HUR.out _ r _ HBQ2.out hs2
                    subst e
                    obtain ⟨⟨a0, a1, a2⟩, ⟨b0, b1, b2⟩, kt⟩ := HKF.out _ HBQ2.out
                    have hq0 : (0 : Int) ≤ (q2 : Int) := by omega
                    have hq3 : (q2 : Int) < (nt : Int) := by omega
                    have hq4 : (q2 : Int) < (ns : Int) := by have := HSS.out.1; omega
                    have hr0 : (0 : Int) ≤ (r : Int) := by omega
                    have hr1 : (r : Int) < (nu : Int) := by omega
                    have hvv : (bv != bv) = false := by simp
                    clear hx hs1 hs2
                    go_upto_region 34 with (fail)
                    go_region
                    go_wp2
                    go_roundg (nt - (q2 + 1))
                    case measure => omega
                    case rel => exact ⟨q2 + 1, by omega, rfl, by go_num, HBQ3.out⟩
                  · have hq3 : ¬ (q2 : Int) < (nt : Int) := by omega
                    go_wp2
                    go_roundg (n - (k + 1))
                    case measure => omega
                    case rel => exact ⟨k + 1, by omega, rfl, by go_num, HBQ2.out⟩
              · subst hna
                go_upto_region 29 with (fail)
                go_region
                clear a0 a1 a2 b0 b1 b2 kt
                obtain ⟨⟨a0, a1, a2⟩, ⟨b0, b1, b2⟩, kt⟩ := HKF.out _ HBD2.out
                go_wp2
                clear a0 a1 a2 b0 b1 b2 kt
                go_loopg [180] nt (fun j iv wx => ∃ q : Nat, q ≤ nt ∧ j = nt - q ∧ iv = .int .i64 q ∧ Below w11.heap.size w11 wx)
                case atStart => exact ⟨0, Nat.zero_le _, rfl, rfl, HBD2.out⟩
                case round =>
                  obtain ⟨q2, hq2, hgq2, rfl, hbq2⟩ := hrel
                  subst hgq2
                  have HBQ2 := Lib.hid hbq2
                  have HBQ3 : Hid (Below w11.heap.size w11 wr.drew) := Lib.hid hbq2.drew
                  clear hbq2 HBQ HBD2
                  by_cases hlq2 : q2 < nt
                  · obtain ⟨x, hx⟩ : ∃ x, (cutLn C s)[q2]? = some x := ⟨_, List.getElem?_eq_getElem (by rw [HLN.out.2.2]; exact hlq2)⟩
                    obtain ⟨bv, r, rfl, hru, hs1, hs2⟩ := HEQ.out q2 x hx
                    obtain ⟨lb, off, e, i0⟩ := HLR.out _ q2 _ HBQ2.out hx
                    subst e
                    obtain ⟨l1, o1, e, i1⟩ := HSR.out _ q2 _ HBQ2.out hs1
                    subst e
                    obtain ⟨l2, o2, e, i2⟩ := HUR.out _ r _ HBQ2.out hs2
                    subst e
                    obtain ⟨⟨a0, a1, a2⟩, ⟨b0, b1, b2⟩, kt⟩ := HKF.out _ HBQ2.out
                    have hq0 : (0 : Int) ≤ (q2 : Int) := by omega
                    have hq3 : (q2 : Int) < (nt : Int) := by omega
                    have hq4 : (q2 : Int) < (ns : Int) := by have := HSS.out.1; omega
                    have hr0 : (0 : Int) ≤ (r : Int) := by omega
                    have hr1 : (r : Int) < (nu : Int) := by omega
                    have hvv : (bv != bv) = false := by simp
                    clear hx hs1 hs2
                    go_upto_region 34 with (fail)
                    go_region
                    go_wp2
                    go_roundg (nt - (q2 + 1))
                    case measure => omega
                    case rel => exact ⟨q2 + 1, by omega, rfl, by go_num, HBQ3.out⟩
                  · have hq3 : ¬ (q2 : Int) < (nt : Int) := by omega
                    go_wp2
                    go_roundg (n - (k + 1))
                    case measure => omega
                    case rel => exact ⟨k + 1, by omega, rfl, by go_num, HBQ2.out⟩
        · have hk1 : ¬ (k : Int) < (n : Int) := by omega
          go_wp2
          go_ret
          exact ⟨rfl, (HF11.out _ HBW.out).2.2⟩
  · obtain ⟨r, hr⟩ : ∃ r, propsE C [(98, at_)] = r := ⟨_, rfl⟩
    rw [hr] at HOF hp
    have hq : (r != 0) = true := by simpa using hp
    have HP := Lib.hid hp
    rw [hlp] at HALL HW1 ⊢
    clear h ok rm hO hb1 hW1 hp hr hlp hu
    dsimp only [TV.val, TV.cells] at HALL HW1 ⊢
    go_enter Try.func6, Try.ntmps6
    go_upto_region 1 with (fail)
    rw [HW1.out]
    go_upto_region 3 with (go_at_call 21; refine (HWK.out _).mono ?_; rintro e w2 ⟨rfl, hb2⟩; have HB2 := Lib.hid hb2; clear hb2)
    have HC2 := Lib.hid (HALL.out w2 HB2.out)
    go_wp2_with (first
      | (refine wpList_load_row rfl 29 (.tmp 3) rfl (w.heap.size) rfl 29 (V.cells C.max) (0, 0) _ HC2.out.1 Try.underlying29 rfl (by kernel_rfl) ?_)
      | (go_at_call 16; refine (HOF.out w2 HC2.out.2.2.1).mono ?_; rintro e wA ⟨hbA, cs, rfl, hn, _⟩; obtain rfl := hn HP.out; have HBA := Lib.hid (bt HB2.out (Nat.le_refl _) hbA); clear hbA hn))
    go_ret
    exact ⟨rfl, ((HALL.out wA HBA.out).2.2.2.2).alloc ((HALL.out wA HBA.out).2.2.2.2).size _⟩
end Go.Proofs.Ytilbgopdciiadaa
