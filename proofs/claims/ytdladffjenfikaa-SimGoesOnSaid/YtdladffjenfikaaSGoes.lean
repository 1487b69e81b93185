/- The walk of SimGoesOn: for whatever circuit, trace and number the statement's Go function answers true, and nothing that was there has turned. -/
import Derived.Test.YtdladffjenfikaaSimQ
import Derived.Test.YtdladffjenfikaaArgS
namespace Go.Proofs.Ytdladffjenfikaa
open Go.RowKit

theorem momsG_drop (C : Circ) (O : List Int) : ∀ (rows : List (List Bool)) (st : List Bool) (k : Nat), (momsG C O st rows).drop k = momsG C O (runS C O st (rows.take k)) (rows.drop k)
  | [], st, k => by cases k <;> rfl
  | r :: rest, st, 0 => rfl
  | r :: rest, st, k + 1 => by
    show (momsG C O _ rest).drop k = _
    rw [momsG_drop C O rest _ k]
    rfl
theorem momsG_at (C : Circ) (O : List Int) (rows : List (List Bool)) (st : List Bool) {k : Nat} {m : Mom} (h : (momsG C O st rows)[k]? = some m) : m.st = runS C O st (rows.take k) := by
  have hk : k < rows.length := by rw [← momsG_len C O rows st]; exact (List.getElem?_eq_some_iff.1 h).1
  have h2 : ((momsG C O st rows).drop k)[0]? = some m := by rw [List.getElem?_drop]; simpa using h
  rw [momsG_drop] at h2
  obtain ⟨r, hr⟩ : ∃ r, rows[k]? = some r := ⟨_, List.getElem?_eq_getElem hk⟩
  rw [drop_one hr] at h2
  have : momOf C (runS C O st (rows.take k)) (valF C O (runS C O st (rows.take k)) r) = m := Option.some.inj h2
  rw [← this]
  rfl
theorem rowE_drop {E : Type} {s : Nat} {enc : E → List Value} {w : World} {b off n c : Nat} {zs : List E} (h : RowE s enc w (.slice (some ⟨b, off, none⟩) n c) zs) {k : Nat} (hk : k ≤ n) : RowE s enc w (.slice (some ⟨b, off + k * s, none⟩) (n - k) (c - k)) (zs.drop k) := by
  obtain ⟨A, c', e, h1, h2, h3⟩ := h
  injection e with e1 e2 e3
  subst e1 e2 e3
  refine ⟨_, c - k, by rw [List.length_drop], by rw [List.length_drop]; omega, by omega, fun i z hz => ?_⟩
  rw [List.getElem?_drop] at hz
  obtain ⟨b', off', e, hb, hc⟩ := h3 (k + i) z hz
  injection e with e
  injection e with e1 e2 _
  subst e1 e2
  refine ⟨b, _, rfl, hb, fun j u hu => ?_⟩
  rw [← hc j u hu]
  congr 2
  rw [Nat.add_mul]
  omega
theorem listsO_drop {w : World} {b off n c : Nat} {rows : List (List Bool)} (h : ListsO w (.slice (some ⟨b, off, none⟩) n c) rows) {k : Nat} (hk : k ≤ n) : ListsO w (.slice (some ⟨b, off + k, none⟩) (n - k) (c - k)) (rows.drop k) := by
  obtain ⟨vs, h1, h2, h3⟩ := h
  refine ⟨vs.drop k, by simpa using rowE_drop h1 hk, by simp [h2], fun i u zs hu hz => ?_⟩
  rw [List.getElem?_drop] at hu hz
  exact h3 _ u zs hu hz
theorem momRow_drop {w : World} {b off n c : Nat} {ms : List Mom} (h : MomRow w (.slice (some ⟨b, off, none⟩) n c) ms) {k : Nat} (hk : k ≤ n) : MomRow w (.slice (some ⟨b, off + k * 4, none⟩) (n - k) (c - k)) (ms.drop k) := by
  obtain ⟨A, c', e, h1, h2, h3⟩ := h
  injection e with e1 e2 e3
  subst e1 e2 e3
  refine ⟨_, c - k, by rw [List.length_drop], by rw [List.length_drop]; omega, by omega, fun i m hm => ?_⟩
  rw [List.getElem?_drop] at hm
  obtain ⟨b', off', x, e, hx⟩ := h3 (k + i) m hm
  injection e with e
  injection e with e1 e2 _
  subst e1 e2
  refine ⟨b, _, x, rfl, ?_⟩
  have : off + (k + i) * 4 = off + k * 4 + i * 4 := by omega
  rwa [this] at hx
set_option maxHeartbeats 20000000 in
set_option maxRecDepth 100000 in
theorem simGoesOn_walk (w : World) (V : CV) (C : Circ) (U : TV) (t : Tr) (a : Int) (h : C.In w V) (ok : C.Ok) (rm : C.Room ∧ C.Reach) (ht : t.In w U) (_hr : t.Reach) (_ha : I64 a) :
    Calls Try.prog 7 #[V.val C.max, U.val t.loop, .int .i64 a] w fun e w' => e = .returned (.bool true) ∧ Below w.heap.size w w' := by
  obtain ⟨O, hO⟩ := ord_ex h ok
  have hall : ∀ wz, Below ((w.alloc (.cells (V.cells C.max) 29)).alloc (.cells (U.cells t.loop) 47)).heap.size ((w.alloc (.cells (V.cells C.max) 29)).alloc (.cells (U.cells t.loop) 47)) wz →
      Blk wz w.heap.size 29 (V.cells C.max) ∧ Blk wz (w.heap.size + 1) 47 (U.cells t.loop) ∧ Below w.heap.size w wz := fun wz hb => by
    have h1 : Below w.heap.size w wz := (((Below.refl w.heap.size w).alloc (Nat.le_refl _) _).alloc (by simp) _).trans (hb.mono (by simp; omega))
    have e1 := ((Blk.new w 29 (V.cells C.max)).alloc (.cells (U.cells t.loop) 47)).below hb (by simp; omega)
    have e2 := (Blk.new (w.alloc (.cells (V.cells C.max) 29)) 47 (U.cells t.loop)).below hb (by simp)
    rw [show (w.alloc (.cells (V.cells C.max) 29)).heap.size = w.heap.size + 1 by simp] at e2
    exact ⟨e1, e2, h1⟩
  have hx0 : Below ((w.alloc (.cells (V.cells C.max) 29)).alloc (.cells (U.cells t.loop) 47)).heap.size ((w.alloc (.cells (V.cells C.max) 29)).alloc (.cells (U.cells t.loop) 47)) ((w.alloc (.cells (V.cells C.max) 29)).alloc (.cells (U.cells t.loop) 47)) := Below.refl _ _
  have hrun := fun (wx : World) (hb : Below w.heap.size w wx) (U2 : TV) (t2 : Tr) (h2 : t2.In wx U2) => Run_any wx V C U2 t2 O (h.below hb) ok rm.1 h2 hO
  have hnex := fun (wx : World) (hb : Below w.heap.size w wx) (sv rv : Value) (st row : List Bool) (hs : RowE 1 encO wx sv st) (hr : RowE 1 encO wx rv row) => Next_any wx V C sv rv st row O (h.below hb) ok hs hr hO
  have HTI := Lib.hid ht
  obtain ⟨AR, cR, eR, hrm, hrr⟩ := ht.r.at_
  have hcap : ∀ A k c, U.r = .slice A k c → k ≤ c := fun A k c e => by
    obtain ⟨vs, ⟨A', c', e', hle, _⟩, _⟩ := ht.r
    rw [e] at e'
    injection e' with _ e2 e3
    omega
  obtain ⟨AI, nI, cI, eI⟩ := slO_form ht.i
  obtain ⟨Vi, Vl, Vo, Vb, Vc, Vj, Vf, Va, Vs, Vt⟩ := V
  obtain ⟨Ui, Ur⟩ := U
  simp only at eR eI
  have hncr := hcap _ _ _ eR
  subst eR eI
  clear hcap
  obtain ⟨m, hmm⟩ : ∃ m, C.max = m := ⟨_, rfl⟩
  obtain ⟨n, hn⟩ : ∃ n, t.rows.length = n := ⟨_, rfl⟩
  obtain ⟨lp, hlp⟩ : ∃ lp, t.loop = lp := ⟨_, rfl⟩
  have hr1 := fun (wx : World) (hb : Below w.heap.size w wx) => hrun wx hb _ t (HTI.out.below hb)
  rw [hmm, hn, hlp] at hall hx0 hr1
  rw [hmm] at hrun hnex
  rw [hn] at HTI hncr
  rw [hmm, hn, hlp]
  have HALL := Lib.hid hall
  have HX := Lib.hid hx0
  have HRR := Lib.hid hrr
  have HRUN := Lib.hid hrun
  have HR1 := Lib.hid hr1
  have HNEX := Lib.hid hnex
  have HN := Lib.hid hn
  have HMM := Lib.hid hmm
  have HO := Lib.hid hO
  unfold maxLen at hrm
  clear h ht ok rm hall hx0 hrun hr1 hnex hrr hmm hn hlp hO
  obtain ⟨c0, c1, c2, c3, c4, c5, c6, c7, c8, c9, c10⟩ := rbox_of (HALL.out _ HX.out).1
  obtain ⟨d0, d1, d2⟩ := trio_of (HALL.out _ HX.out).2.1
  by_cases h0 : runE C t = 0
  · obtain ⟨hck, hfb⟩ := runE_ok h0
    have HF := Lib.hid (fits_of hfb)
    have HCK := Lib.hid hck
    have hn1 := HF.out.n1
    have hn2 := HF.out.n2
    rw [HN.out] at hn1 hn2
    rw [h0] at HR1
    clear h0 hck hfb
    obtain ⟨row0, hz0⟩ : ∃ row, t.rows[0]? = some row := ⟨_, List.getElem?_eq_getElem (by rw [HN.out]; omega)⟩
    obtain ⟨rb, ro, u0, e0, hrb, _, _⟩ := HRR.out 0 row0 hz0
    subst e0
    clear hz0
    have hnz : ((n : Int) == 0) = false := by simp; omega
    have hnn : ((n : Int) != (n : Int)) = false := by simp
    have hnz2 : (n : Int) ≠ 0 := by omega
    obtain ⟨kk, hat, hkk⟩ : ∃ kk : Nat, wrap64 ((IntKind.u64.wrap a).tmod (n : Int)) = (kk : Int) ∧ kk < n := by
      have h0 : 0 ≤ IntKind.u64.wrap a := by simp [IntKind.wrap, IntKind.bits, IntKind.signed]; omega
      have h1 : (IntKind.u64.wrap a).tmod (n : Int) = (IntKind.u64.wrap a) % (n : Int) := Int.tmod_eq_emod_of_nonneg h0
      have h2 := Int.emod_nonneg (IntKind.u64.wrap a) hnz2
      have h3 := Int.emod_lt_of_pos (IntKind.u64.wrap a) (show (0 : Int) < (n : Int) by omega)
      rw [h1]
      generalize IntKind.u64.wrap a % (n : Int) = y at *
      refine ⟨y.toNat, ?_, by omega⟩
      simp only [wrap64]
      omega
    have hkk0 : (0 : Int) ≤ (kk : Int) := by omega
    have hkk1 : (kk : Int) < (n : Int) := by omega
    have hkk2 : (kk : Int) ≤ (n : Int) := by omega
    go_enter Try.func7, Try.ntmps7
    go_upto_region 8 with (first
      | (go_at_call 20; refine (worksS_any _).mono ?_; rintro e w1 ⟨rfl, hb⟩; have HXN := Lib.hid (bt HX.out (Nat.le_refl _) hb); clear HX hb c0 c1 c2 c3 c4 c5 c6 c7 c8 c9 c10 d0 d1 d2; have HX := HXN; clear HXN; obtain ⟨c0, c1, c2, c3, c4, c5, c6, c7, c8, c9, c10⟩ := rbox_of (HALL.out _ HX.out).1; obtain ⟨d0, d1, d2⟩ := trio_of (HALL.out _ HX.out).2.1)
      | (go_at_call 24; refine (HR1.out _ (HALL.out _ HX.out).2.2).mono ?_; rintro e w2 ⟨hb, v, rfl, _, hyes⟩; obtain ⟨gm, xs, rfl, hgm, hmb, hms⟩ := hyes (by first | rfl | trivial); have HMB := Lib.hid hmb; have HMS := Lib.hid hms; clear hyes hgm hmb hms; have HXN := Lib.hid (bt HX.out (Nat.le_refl _) hb); clear HX hb c0 c1 c2 c3 c4 c5 c6 c7 c8 c9 c10 d0 d1 d2; have HX := HXN; clear HXN; obtain ⟨c0, c1, c2, c3, c4, c5, c6, c7, c8, c9, c10⟩ := rbox_of (HALL.out _ HX.out).1; obtain ⟨d0, d1, d2⟩ := trio_of (HALL.out _ HX.out).2.1))
    go_upto_region 9 with (fail)
    have hms := HMS.out
    obtain ⟨mk, hmk⟩ : ∃ mk, (momsG C O t.init t.rows)[kk]? = some mk := ⟨_, List.getElem?_eq_getElem (by rw [momsG_len, HN.out]; exact hkk)⟩
    obtain ⟨x, hx⟩ : ∃ x, xs[kk]? = some x := ⟨_, List.getElem?_eq_getElem (by rw [hms.len, momsG_len, HN.out]; exact hkk)⟩
    have hmr := hms.at_ kk x mk hx hmk
    have hst := momsG_at C O t.rows t.init hmk
    obtain ⟨sA, sc, hse⟩ := own_slice1 hmr.s
    have hc0 := (HMB.out.cells hx).1
    rw [hse] at hc0
    have hsr : RowE 1 encO w2 (.slice sA mk.st.length sc) mk.st := by rw [← hse]; exact own_rowe lenO (by rw [flat_bools]; exact hmr.s)
    have hsl : mk.st.length = C.latches.length := by rw [hst, runS_len C O HF.out.i]
    have hlo := HTI.out.r.below (HALL.out _ HX.out).2.2
    simp only at hlo
    have htin : (⟨mk.st, t.rows.drop kk, -1⟩ : Tr).In w2 ⟨.slice sA mk.st.length sc, .slice (some ⟨rb, ro + kk, none⟩) (n - kk) (cR - kk)⟩ := ⟨hsr, listsO_drop hlo (Nat.le_of_lt hkk)⟩
    have hfit2 : fitsB C ⟨mk.st, t.rows.drop kk, -1⟩ = true := by
      have h5 : (t.rows.drop kk).length = n - kk := by rw [List.length_drop, HN.out]
      have h6 : rowsB C (t.rows.drop kk) = true := by
        unfold rowsB
        rw [List.all_eq_true]
        intro r hr
        simpa using HF.out.r r (List.mem_of_mem_drop hr)
      unfold fitsB
      simp only [h5, h6, hsl]
      simp
      omega
    have hrn2 : runE C ⟨mk.st, t.rows.drop kk, -1⟩ = 0 := runE_yes HCK.out hfit2
    have hcall := fun (wx : World) (hb : Below w2.heap.size w2 wx) => HRUN.out wx (((HALL.out _ HX.out).2.2).trans (hb.mono (HALL.out _ HX.out).2.2.size)) _ _ (htin.below hb)
    rw [hrn2] at hcall
    have hdl : (t.rows.drop kk).length = n - kk := by rw [List.length_drop, HN.out]
    simp only [hdl] at hcall
    have hcr : ¬ cR = kk := by omega
    obtain ⟨nl, hnl⟩ : ∃ nl, mk.st.length = nl := ⟨_, rfl⟩
    rw [hnl] at hcall hc0
    have HNL := Lib.hid (hnl.symm.trans hsl)
    have HC2 := Lib.hid hcall
    have hdrop := momsG_drop C O t.rows t.init kk
    rw [← hst] at hdrop
    have HDR := Lib.hid hdrop
    have HSV : Hid (∀ wz, Below w2.heap.size w2 wz → wz.cell? ⟨w.heap.size, 0, none⟩ = some (.int .i64 m) ∧ wz.cell? ⟨w.heap.size, 1, none⟩ = some (Vi) ∧ wz.cell? ⟨w.heap.size, 2, none⟩ = some (Vl) ∧ wz.cell? ⟨w.heap.size, 3, none⟩ = some (Vo) ∧ wz.cell? ⟨w.heap.size, 4, none⟩ = some (Vb) ∧ wz.cell? ⟨w.heap.size, 5, none⟩ = some (Vc) ∧ wz.cell? ⟨w.heap.size, 6, none⟩ = some (Vj) ∧ wz.cell? ⟨w.heap.size, 7, none⟩ = some (Vf) ∧ wz.cell? ⟨w.heap.size, 8, none⟩ = some (Va) ∧ wz.cell? ⟨w.heap.size, 9, none⟩ = some (Vs) ∧ wz.cell? ⟨w.heap.size, 10, none⟩ = some (Vt) ∧ wz.cell? ⟨w.heap.size + 1, 1, none⟩ = some (.slice (some ⟨rb, ro, none⟩) n cR) ∧ wz.cell? ⟨gm, kk * 4, none⟩ = some (.slice sA nl sc)) := Lib.hid (fun wz hb => by
      have h1 := bt HX.out (Nat.le_refl _) hb
      obtain ⟨e0, e1, e2, e3, e4, e5, e6, e7, e8, e9, e10⟩ := rbox_of (HALL.out _ h1).1
      obtain ⟨_, k1, _⟩ := trio_of (HALL.out _ h1).2.1
      exact ⟨e0, e1, e2, e3, e4, e5, e6, e7, e8, e9, e10, k1, (hb.cell (p := ⟨gm, kk * 4, none⟩) HMB.out.lt).trans hc0⟩)
    clear hms hmk hx hmr hst hse hsr hlo htin hfit2 hrn2 hcall hdrop hsl hnl hdl
    go_region_held3 (fun w' => w'.cell? ⟨w.heap.size, 0, none⟩ = some (.int .i64 m) ∧ w'.cell? ⟨w.heap.size, 1, none⟩ = some (Vi) ∧ w'.cell? ⟨w.heap.size, 2, none⟩ = some (Vl) ∧ w'.cell? ⟨w.heap.size, 3, none⟩ = some (Vo) ∧ w'.cell? ⟨w.heap.size, 4, none⟩ = some (Vb) ∧ w'.cell? ⟨w.heap.size, 5, none⟩ = some (Vc) ∧ w'.cell? ⟨w.heap.size, 6, none⟩ = some (Vj) ∧ w'.cell? ⟨w.heap.size, 7, none⟩ = some (Vf) ∧ w'.cell? ⟨w.heap.size, 8, none⟩ = some (Va) ∧ w'.cell? ⟨w.heap.size, 9, none⟩ = some (Vs) ∧ w'.cell? ⟨w.heap.size, 10, none⟩ = some (Vt) ∧ w'.cell? ⟨w.heap.size + 1, 1, none⟩ = some (.slice (some ⟨rb, ro, none⟩) n cR) ∧ w'.cell? ⟨gm, kk * 4, none⟩ = some (.slice sA nl sc)) (first | exact HSV.out _ (Below.refl _ _).drew | exact HSV.out _ HY.out | go_keep)
      (first | (go_at_call 24; refine (HC2.out _ (Below.refl _ _).drew).mono ?_; rintro e w3 ⟨hb, v, rfl, _, hyes⟩; obtain ⟨gn, ys, rfl, hgn, hmb2, hms2⟩ := hyes (by first | rfl | trivial); have HMB2 := Lib.hid hmb2; have HMS2 := Lib.hid hms2; have HY := Lib.hid (bt (Below.refl w2.heap.size w2).drew (Nat.le_refl _) hb); clear hyes hgn hmb2 hms2 hb))
    go_upto_region 10 with (fail)
    have hX3 := bt HX.out (Nat.le_refl _) HY.out
    have HMB3 := Lib.hid (HMB.out.below HY.out HMB.out.lt)
    have HMS3 := Lib.hid (HMS.out.below HY.out)
    have hmr1 := momRow_of HMB2.out HMS2.out (by rw [momsG_len, List.length_drop, HN.out]) (by unfold maxLen; omega)
    have hmr2 := momRow_drop (momRow_of HMB3.out HMS3.out (by rw [momsG_len, HN.out]) (by unfold maxLen; omega)) (Nat.le_of_lt hkk)
    rw [HDR.out] at hmr2
    have hsm := same_any w3 _ _ _ hmr1 hmr2
    have HSM := Lib.hid hsm
    have hnk : ¬ n = kk := by omega
    have hnk2 : (kk : Int) ≤ (n : Int) := by omega
    clear HX HY HMB HMS HMB2 HMS2 HC2 HSV HDR hmr1 hmr2 hsm c0 c1 c2 c3 c4 c5 c6 c7 c8 c9 c10 d0 d1 d2
    have HX := Lib.hid hX3
    clear hX3
    obtain ⟨c0, c1, c2, c3, c4, c5, c6, c7, c8, c9, c10⟩ := rbox_of (HALL.out _ HX.out).1; obtain ⟨d0, d1, d2⟩ := trio_of (HALL.out _ HX.out).2.1
    simp only [Nat.zero_add] at HSM
    go_upto_region 12 with (go_at_call 26; refine HSM.out.mono ?_; rintro e w4 ⟨rfl, hb⟩; have HMB4 := Lib.hid (HMB3.out.below hb HMB3.out.lt); have HMS4 := Lib.hid (HMS3.out.below hb); have HXN := Lib.hid (bt HX.out (Nat.le_refl _) hb); clear HX hb c0 c1 c2 c3 c4 c5 c6 c7 c8 c9 c10 d0 d1 d2; have HX := HXN; clear HXN; obtain ⟨c0, c1, c2, c3, c4, c5, c6, c7, c8, c9, c10⟩ := rbox_of (HALL.out _ HX.out).1; obtain ⟨d0, d1, d2⟩ := trio_of (HALL.out _ HX.out).2.1)
    clear HMB3 HMS3 HSM
    have HEQ : Hid (∀ wz, Below w4.heap.size w4 wz → MomB wz gm n xs ∧ Moms wz w1.heap.size xs (momsG C O t.init t.rows) ∧ Below ((w.alloc (.cells #[.int .i64 m, Vi, Vl, Vo, Vb, Vc, Vj, Vf, Va, Vs, Vt] 29)).alloc (.cells #[.slice AI nI cI, .slice (some ⟨rb, ro, none⟩) n cR, .int .i64 lp] 47)).heap.size ((w.alloc (.cells #[.int .i64 m, Vi, Vl, Vo, Vb, Vc, Vj, Vf, Va, Vs, Vt] 29)).alloc (.cells #[.slice AI nI cI, .slice (some ⟨rb, ro, none⟩) n cR, .int .i64 lp] 47)) wz) := Lib.hid (fun wz hb => ⟨HMB4.out.below hb HMB4.out.lt, HMS4.out.below hb, bt HX.out (Nat.le_refl _) hb⟩)
    go_wp2
    go_loopg [11] n (fun j iv wr => ∃ q : Nat, q + 1 ≤ n ∧ iv = .int .i64 q ∧ j = n - q ∧ Below w4.heap.size w4 wr)
    case atStart => exact ⟨0, by omega, rfl, rfl, Below.refl _ _⟩
    case round =>
      obtain ⟨q, hq, rfl, hgk, hbw⟩ := hrel
      subst hgk
      have HB4 := Lib.hid hbw
      obtain ⟨hmb, hms, hxw⟩ := HEQ.out _ hbw
      clear HX c0 c1 c2 c3 c4 c5 c6 c7 c8 c9 c10 d0 d1 d2
      have HX := Lib.hid hxw
      clear hbw hxw
      obtain ⟨c0, c1, c2, c3, c4, c5, c6, c7, c8, c9, c10⟩ := rbox_of (HALL.out _ HX.out).1; obtain ⟨d0, d1, d2⟩ := trio_of (HALL.out _ HX.out).2.1
      by_cases hlt : q + 1 < n
      · obtain ⟨mq, hmq⟩ : ∃ mq, (momsG C O t.init t.rows)[q]? = some mq := ⟨_, List.getElem?_eq_getElem (by rw [momsG_len, HN.out]; omega)⟩
        obtain ⟨mr, hmr⟩ : ∃ mr, (momsG C O t.init t.rows)[q + 1]? = some mr := ⟨_, List.getElem?_eq_getElem (by rw [momsG_len, HN.out]; omega)⟩
        obtain ⟨x, hx⟩ : ∃ x, xs[q]? = some x := ⟨_, List.getElem?_eq_getElem (by rw [hms.len, momsG_len, HN.out]; omega)⟩
        obtain ⟨y, hy⟩ : ∃ y, xs[q + 1]? = some y := ⟨_, List.getElem?_eq_getElem (by rw [hms.len, momsG_len, HN.out]; omega)⟩
        obtain ⟨row, hz⟩ : ∃ row, t.rows[q]? = some row := ⟨_, List.getElem?_eq_getElem (by rw [HN.out]; omega)⟩
        have hx2 := hms.at_ q x mq hx hmq
        have hy2 := hms.at_ (q + 1) y mr hy hmr
        have hst := momsG_at C O t.rows t.init hmq
        have hst2 := momsG_at C O t.rows t.init hmr
        rw [show t.rows.take (q + 1) = t.rows.take q ++ [row] by rw [List.take_add_one, hz]; rfl, runS_snoc, ← hst] at hst2
        obtain ⟨sA2, sc2, hse⟩ := own_slice1 hx2.s
        obtain ⟨tA2, tc2, hte⟩ := own_slice1 hy2.s
        have hc0 := (hmb.cells hx).1
        have hd0 := (hmb.cells hy).1
        rw [hse] at hc0
        rw [hte] at hd0
        have hsl : mq.st.length = nl := by rw [hst, runS_len C O HF.out.i]; exact HNL.out.symm
        have htl : mr.st.length = nl := by rw [hst2, nextF_len]; exact HNL.out.symm
        have hsr : RowE 1 encO wr (.slice sA2 nl sc2) mq.st := by rw [← hsl, ← hse]; exact own_rowe lenO (by rw [flat_bools]; exact hx2.s)
        have htr : RowE 1 encO wr (.slice tA2 nl tc2) mr.st := by rw [← htl, ← hte]; exact own_rowe lenO (by rw [flat_bools]; exact hy2.s)
        rw [hsl] at hc0
        rw [htl] at hd0
        obtain ⟨rb2, ro2, u, e, hrb2, hu, hru⟩ := HRR.out q row hz
        injection e with e
        injection e with e1 e2 _
        subst e1 e2
        have hrl := HF.out.r row (List.mem_of_getElem? hz)
        obtain ⟨uA, un, uc, hue⟩ := slO_form hru
        subst hue
        have hfe : fitE C mq.st row = 0 := fitE_yes HCK.out (hsl.trans HNL.out) hrl
        have HSR := Lib.hid hsr
        have HTR := Lib.hid htr
        have HRU := Lib.hid (hru.below (HALL.out _ HX.out).2.2)
        have hcu := ((HALL.out _ HX.out).2.2.cell (p := ⟨rb, ro + q, none⟩) hrb2).trans hu
        have HD0 := Lib.hid (And.intro hmb.lt hd0)
        have hcall := fun (wx : World) (hb : Below wr.heap.size wr wx) => HNEX.out wx (((HALL.out _ HX.out).2.2).trans (hb.mono (HALL.out _ HX.out).2.2.size)) _ _ mq.st row (HSR.out.below hb) (HRU.out.below hb)
        rw [hfe, ← hst2] at hcall
        have HC3 := Lib.hid hcall
        have hmt : mr.st.length = C.latches.length := htl.trans HNL.out
        have HMT := Lib.hid hmt
        have HSO : Hid (∀ (wx : World) (g : Nat), Below wr.heap.size wr wx → Tab wx g mr.st → Calls Try.prog 17 #[.slice (some ⟨g, 0, none⟩) C.latches.length C.latches.length, .slice tA2 nl tc2] wx fun e w' => e = .returned (.bool true) ∧ Below wx.heap.size wx w') := Lib.hid (fun wx g hb ht => by
          have h1 := tabT_row ht (by rw [hmt]; have := (right_of HCK.out).nl; unfold maxLen; omega)
          rw [hmt] at h1
          have := SameO_any wx _ _ mr.st mr.st h1 (HTR.out.below hb)
          rwa [decide_eq_true (rfl : mr.st = mr.st)] at this)
        have HSV : Hid (∀ wz, Below wr.heap.size wr wz → wz.cell? ⟨w.heap.size, 0, none⟩ = some (.int .i64 m) ∧ wz.cell? ⟨w.heap.size, 1, none⟩ = some (Vi) ∧ wz.cell? ⟨w.heap.size, 2, none⟩ = some (Vl) ∧ wz.cell? ⟨w.heap.size, 3, none⟩ = some (Vo) ∧ wz.cell? ⟨w.heap.size, 4, none⟩ = some (Vb) ∧ wz.cell? ⟨w.heap.size, 5, none⟩ = some (Vc) ∧ wz.cell? ⟨w.heap.size, 6, none⟩ = some (Vj) ∧ wz.cell? ⟨w.heap.size, 7, none⟩ = some (Vf) ∧ wz.cell? ⟨w.heap.size, 8, none⟩ = some (Va) ∧ wz.cell? ⟨w.heap.size, 9, none⟩ = some (Vs) ∧ wz.cell? ⟨w.heap.size, 10, none⟩ = some (Vt) ∧ wz.cell? ⟨w.heap.size + 1, 1, none⟩ = some (.slice (some ⟨rb, ro, none⟩) n cR) ∧ wz.cell? ⟨gm, q * 4, none⟩ = some (.slice sA2 nl sc2) ∧ wz.cell? ⟨rb, ro + q, none⟩ = some (.slice uA un uc)) := Lib.hid (fun wz hb => by
          have h1 := bt HX.out (Nat.le_refl _) hb
          obtain ⟨e0, e1, e2, e3, e4, e5, e6, e7, e8, e9, e10⟩ := rbox_of (HALL.out _ h1).1
          obtain ⟨_, k1, _⟩ := trio_of (HALL.out _ h1).2.1
          exact ⟨e0, e1, e2, e3, e4, e5, e6, e7, e8, e9, e10, k1, (hb.cell (p := ⟨gm, q * 4, none⟩) hmb.lt).trans hc0, (hb.cell (p := ⟨rb, ro + q, none⟩) (Nat.lt_of_lt_of_le hrb2 (HALL.out _ HX.out).2.2.size)).trans hcu⟩)
        have hq0 : (0 : Int) ≤ (q : Int) := by omega
        have hq1 : (q : Int) < (n : Int) := by omega
        have hq2 : (q : Int) + 1 < (n : Int) := by omega
        have hq3 : IntKind.i64.wrap ((q : Int) + 1) = (q : Int) + 1 := by simp [IntKind.wrap, IntKind.bits, IntKind.signed]; omega
        clear hmb hms hmq hmr hx hy hz hx2 hy2 hst hst2 hse hte hc0 hd0 hsl htl hsr htr hu hru hrl hfe hcall hmt hcu
        go_upto_region 15 with (fail)
        go_region_held3 (fun w' => w'.cell? ⟨w.heap.size, 0, none⟩ = some (.int .i64 m) ∧ w'.cell? ⟨w.heap.size, 1, none⟩ = some (Vi) ∧ w'.cell? ⟨w.heap.size, 2, none⟩ = some (Vl) ∧ w'.cell? ⟨w.heap.size, 3, none⟩ = some (Vo) ∧ w'.cell? ⟨w.heap.size, 4, none⟩ = some (Vb) ∧ w'.cell? ⟨w.heap.size, 5, none⟩ = some (Vc) ∧ w'.cell? ⟨w.heap.size, 6, none⟩ = some (Vj) ∧ w'.cell? ⟨w.heap.size, 7, none⟩ = some (Vf) ∧ w'.cell? ⟨w.heap.size, 8, none⟩ = some (Va) ∧ w'.cell? ⟨w.heap.size, 9, none⟩ = some (Vs) ∧ w'.cell? ⟨w.heap.size, 10, none⟩ = some (Vt) ∧ w'.cell? ⟨w.heap.size + 1, 1, none⟩ = some (.slice (some ⟨rb, ro, none⟩) n cR) ∧ w'.cell? ⟨gm, q * 4, none⟩ = some (.slice sA2 nl sc2) ∧ w'.cell? ⟨rb, ro + q, none⟩ = some (.slice uA un uc)) (first | exact HSV.out _ (Below.refl _ _).drew | exact HSV.out _ HY.out | go_keep)
          (first | (go_at_call 13; refine (HC3.out _ (Below.refl _ _).drew).mono ?_; rintro e w5 ⟨hb, v, rfl, _, hyes⟩; obtain ⟨g5, rfl, hg5, ht5⟩ := hyes (by first | rfl | trivial); have HT5 := Lib.hid ht5; have HY := Lib.hid (bt (Below.refl wr.heap.size wr).drew (Nat.le_refl _) hb); have HW5 : Hid (w5.cell? ⟨gm, (q + 1) * 4, none⟩ = some (.slice tA2 nl tc2)) := Lib.hid ((HY.out.cell (p := ⟨gm, (q + 1) * 4, none⟩) HD0.out.1).trans HD0.out.2); clear hyes hg5 ht5 hb))
        have hd5 := HW5.out
        go_wp2_with (go_at_call 17; refine (HSO.out _ _ HY.out HT5.out).mono ?_; rintro e w6 ⟨rfl, hb⟩; have HY6 := Lib.hid (bt HY.out (Nat.le_refl _) hb); clear hb)
        go_roundg (n - (q + 1))
        case measure => omega
        case rel => exact ⟨q + 1, by omega, by go_num, rfl, bt HB4.out (Nat.le_refl _) HY6.out⟩
      · go_wp2
        go_ret
        exact ⟨rfl, (HALL.out _ HX.out).2.2⟩
  · obtain ⟨r, hr⟩ : ∃ r, runE C t = r := ⟨_, rfl⟩
    rw [hr] at HR1 h0
    have hq : (r != 0) = true := by simpa using h0
    have H0 := Lib.hid h0
    clear h0 hr
    go_enter Try.func7, Try.ntmps7
    go_wp2_with (first
      | (go_at_call 20; refine (worksS_any _).mono ?_; rintro e w1 ⟨rfl, hb⟩; have HXN := Lib.hid (bt HX.out (Nat.le_refl _) hb); clear HX hb c0 c1 c2 c3 c4 c5 c6 c7 c8 c9 c10 d0 d1 d2; have HX := HXN; clear HXN; obtain ⟨c0, c1, c2, c3, c4, c5, c6, c7, c8, c9, c10⟩ := rbox_of (HALL.out _ HX.out).1; obtain ⟨d0, d1, d2⟩ := trio_of (HALL.out _ HX.out).2.1)
      | (go_at_call 24; refine (HR1.out _ (HALL.out _ HX.out).2.2).mono ?_; rintro e w2 ⟨hb, v, rfl, hno, _⟩; obtain rfl := hno H0.out; clear hno; have HXN := Lib.hid (bt HX.out (Nat.le_refl _) hb); clear HX hb c0 c1 c2 c3 c4 c5 c6 c7 c8 c9 c10 d0 d1 d2; have HX := HXN; clear HXN; obtain ⟨c0, c1, c2, c3, c4, c5, c6, c7, c8, c9, c10⟩ := rbox_of (HALL.out _ HX.out).1; obtain ⟨d0, d1, d2⟩ := trio_of (HALL.out _ HX.out).2.1))
    go_ret
    exact ⟨rfl, (HALL.out _ HX.out).2.2⟩
end Go.Proofs.Ytdladffjenfikaa
