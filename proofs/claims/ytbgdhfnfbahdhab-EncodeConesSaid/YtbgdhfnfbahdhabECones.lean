/- The walk of EncodeCones: for whatever circuit, literals, state, row and bits the statement's Go function answers true, and nothing that was there has turned. -/
import Derived.Test.YtbgdhfnfbahdhabEncW
import Derived.Test.YtbgdhfnfbahdhabEncV
import Derived.Test.YtbgdhfnfbahdhabEncN
namespace Go.Proofs.Ytbgdhfnfbahdhab
open Go.RowKit

set_option maxHeartbeats 1000000 in
set_option maxRecDepth 100000 in
theorem eModelT_any (w : World) (V : CV) (C : Circ) (sv rv : Value) (st row : List Bool) (O : List Int) (h : C.In w V) (ok : C.Ok) (hs : RowE 1 encO w sv st) (hr : RowE 1 encO w rv row) (hO : (checkR C).2 = 0 → IsOrd C O) :
    Calls Try.prog 9 #[V.val C.max, sv, rv] w fun e w' => Below w.heap.size w w' ∧ ∃ v, e = .returned (.tuple #[v, .int .i64 (fitE C st row)]) ∧ (fitE C st row ≠ 0 → v = .slice none 0 0) ∧ (fitE C st row = 0 → ∃ g, v = .slice (some ⟨g, 0, none⟩) (C.max.toNat + 1) (C.max.toNat + 1) ∧ w.heap.size ≤ g ∧ Tab w' g (valF C O st row)) := by
  have HB0 : Hid (Below w.heap.size w (w.alloc (.cells (V.cells C.max) 29))) := Lib.hid ((Below.refl _ _).alloc (Nat.le_refl _) _)
  have HX0 : Hid (Blk (w.alloc (.cells (V.cells C.max) 29)) w.heap.size 29 (V.cells C.max)) := Lib.hid (Blk.new w _ _)
  have HV := Lib.hid (Values_any (w.alloc (.cells (V.cells C.max) 29)) V C sv rv st row O (h.below HB0.out) ok (hs.below HB0.out) (hr.below HB0.out) hO)
  obtain ⟨sA, sn, sc, hse⟩ := slO_form hs
  obtain ⟨rA, rn, rc, hre⟩ := slO_form hr
  subst hse hre
  obtain ⟨Vi, Vl, Vo, Vb, Vc, Vj, Vf, Va, Vs, Vt⟩ := V
  obtain ⟨c0, c1, c2, c3, c4, c5, c6, c7, c8, c9, c10⟩ := rbox_of HX0.out
  generalize valF C O st row = L at *
  generalize fitE C st row = r at *
  clear h ok hs hr hO
  go_enter Try.func9, Try.ntmps9
  go_wp2_with (go_at_call 11; refine HV.out.mono ?_; rintro e w1 ⟨hb, v, rfl, ho1, ho2⟩; have HX := Lib.hid hb; have HO1 := Lib.hid ho1; have HO2 := Lib.hid ho2; clear hb ho1 ho2)
  go_ret2
  exact ⟨bt HB0.out (Nat.le_refl _) HX.out, v, rfl, HO1.out, fun h => by
    obtain ⟨g, e, hg, ht⟩ := HO2.out h
    exact ⟨g, e, Nat.le_trans HB0.out.size hg, ht⟩⟩

theorem tab_rowK {w : World} {g : Nat} {A : List Bool} (h : Tab w g A) (hl : A.length ≤ maxLen) : RowE 1 encO w (.slice (some ⟨g, 0, none⟩) A.length A.length) A :=
  ⟨_, _, rfl, Nat.le_refl _, hl, fun i z hz => ⟨g, 0, rfl, h.lt, fun j u hu => by
    have hj : j = 0 := by
      have := (List.getElem?_eq_some_iff.1 hu).1
      simp [encO] at this
      exact this
    subst hj
    have hu2 : u = .bool z := by simpa [encO] using hu.symm
    subst hu2
    have := Tab.cell h hz
    simpa using this⟩⟩
theorem litsN_ofK {n : Nat} {F : List (List Int)} (h : WfC n F) : ∀ xs ∈ F, LitsN n xs := fun xs hx => ⟨by have := (h xs hx).1; omega, (h xs hx).2⟩
theorem cone_wf {C : Circ} {L : List Int} {m : Nat} (h0 : (checkR C).2 = 0) (hm : C.max = (m : Int)) : WfC (m + 1) (formC (coneG C L)) := formC_wf (by omega) (fun z hz => by
  obtain ⟨⟨a, b⟩, ⟨c, d⟩, e, f⟩ := gates_in h0 hm z (coneG_mem z hz)
  exact ⟨⟨a, by push_cast; omega⟩, ⟨c, by push_cast; omega⟩, e, by push_cast; omega⟩)
theorem all_congK {α : Type} {p q : α → Bool} : ∀ {xs : List α}, (∀ x ∈ xs, p x = q x) → xs.all p = xs.all q
  | [], _ => rfl
  | a :: r, h => by rw [List.all_cons, List.all_cons, h a (by simp), all_congK (fun x hx => h x (by simp [hx]))]
theorem any_congK {α : Type} {p q : α → Bool} : ∀ {xs : List α}, (∀ x ∈ xs, p x = q x) → xs.any p = xs.any q
  | [], _ => rfl
  | a :: r, h => by rw [List.any_cons, List.any_cons, h a (by simp), any_congK (fun x hx => h x (by simp [hx]))]
theorem agree_all {T A : List Bool} {F : List (List Int)} (h : ∀ xs ∈ F, ∀ x ∈ xs, A.getD (x.natAbs - 1) false = T.getD (x.natAbs - 1) false) : holdsC A F = holdsC T F :=
  all_congK fun xs hx => any_congK fun x hxx => by unfold trueC; rw [h xs hx x hxx]
theorem fitK_ok {C : Circ} {L : List Int} (h : fitK C L = 0) : (checkR C).2 = 0 ∧ L.length ≤ 16384 ∧ L.all (litK C) = true := by
  unfold fitK at h
  split at h
  · contradiction
  · split at h
    · cases h
    · split at h
      · exact ⟨by omega, by omega, by assumption⟩
      · cases h
set_option maxHeartbeats 20000000 in
set_option maxRecDepth 100000 in
theorem encodeCones_walk (w : World) (V : CV) (C : Circ) (lv sv rv : Value) (L : List Int) (st row : List Bool) (y : Int) (h : C.In w V) (ok : C.Ok) (hl : RowE 1 encI w lv L) (hs : RowE 1 encO w sv st) (hr : RowE 1 encO w rv row) :
    Calls Try.prog 4 #[V.val C.max, lv, .agg #[sv, rv, .int .u64 y]] w fun e w' => e = .returned (.bool true) ∧ Below w.heap.size w w' := by
  obtain ⟨O, hO⟩ := ord_ex h ok
  have HGAT := Lib.hid (fun (wx : World) (hb : Below w.heap.size w wx) => Gates_any wx V C (h.below hb) ok)
  have HCON := Lib.hid (fun (wx : World) (hb : Below w.heap.size w wx) => Cone_any wx V C lv L (h.below hb) ok (hl.below hb))
  have HMOD := Lib.hid (fun (wx : World) (hb : Below w.heap.size w wx) => eModelT_any wx V C sv rv st row O (h.below hb) ok (hs.below hb) (hr.below hb) hO)
  have HVAL := Lib.hid (fun (wx : World) (hb : Below w.heap.size w wx) => Values_any wx V C sv rv st row O (h.below hb) ok (hs.below hb) (hr.below hb) hO)
  have HO := Lib.hid hO
  obtain ⟨LA, lc, hle, _, _, rL⟩ := hl
  have HRL := Lib.hid rL
  obtain ⟨n, hn⟩ : ∃ n, L.length = n := ⟨_, rfl⟩
  have HNN := Lib.hid hn
  rw [hn] at hle
  subst hle
  obtain ⟨sA, sn, sc, hse⟩ := slO_form hs
  obtain ⟨rA, rn, rc, hre⟩ := slO_form hr
  subst hse hre
  obtain ⟨Vi, Vl, Vo, Vb, Vc, Vj, Vf, Va, Vs, Vt⟩ := V
  obtain ⟨mx, hmx⟩ : ∃ m, C.max = m := ⟨_, rfl⟩
  have HMX := Lib.hid hmx
  rw [hmx] at HGAT HMOD HVAL HCON
  rw [hmx]
  obtain ⟨W0, hW0⟩ : ∃ W0, (w.alloc (.cells #[.int .i64 mx, Vi, Vl, Vo, Vb, Vc, Vj, Vf, Va, Vs, Vt] 29)).alloc (.cells #[.slice sA sn sc, .slice rA rn rc, .int .u64 y] 49) = W0 := ⟨_, rfl⟩
  have HW0 := Lib.hid hW0
  have HBW0 : Hid (Below w.heap.size w W0) := Lib.hid (by rw [← hW0]; exact ((Below.refl w.heap.size w).alloc (Nat.le_refl _) _).alloc (by simp) _)
  have HKX : Hid (Blk W0 w.heap.size 29 #[.int .i64 mx, Vi, Vl, Vo, Vb, Vc, Vj, Vf, Va, Vs, Vt]) := Lib.hid (by rw [← hW0]; exact (Blk.new w _ _).alloc _)
  have HALL : Hid (∀ wz, Below W0.heap.size W0 wz → Blk wz w.heap.size 29 #[.int .i64 mx, Vi, Vl, Vo, Vb, Vc, Vj, Vf, Va, Vs, Vt] ∧ Below w.heap.size w wz) := Lib.hid (fun wz hb =>
    ⟨HKX.out.below hb HKX.out.lt, bt HBW0.out (Nat.le_refl _) hb⟩)
  have HX : Hid (Below W0.heap.size W0 W0) := Lib.hid (Below.refl _ _)
  have hkb : Blk W0 (w.heap.size + 1) 49 #[.slice sA sn sc, .slice rA rn rc, .int .u64 y] := by
    rw [← hW0]
    have := Blk.new (w.alloc (.cells #[.int .i64 mx, Vi, Vl, Vo, Vb, Vc, Vj, Vf, Va, Vs, Vt] 29)) 49 #[.slice sA sn sc, .slice rA rn rc, .int .u64 y]
    simpa using this
  have k0 := hkb.cell 0
  have k1 := hkb.cell 1
  have k2 := hkb.cell 2
  simp only [List.getElem?_toArray, List.getElem?_cons_zero, List.getElem?_cons_succ] at k0 k1 k2
  clear h ok hO hmx rL hn hW0 hkb hs hr
  obtain ⟨c0, c1, c2, c3, c4, c5, c6, c7, c8, c9, c10⟩ := rbox_of (HALL.out _ HX.out).1
  by_cases hk : fitK C L = 0
  · obtain ⟨h0, hLn, hLall⟩ := fitK_ok hk
    by_cases hf : fitE C st row = 0
    · obtain ⟨_, hst, hrw⟩ := fitE_ok hf
      obtain ⟨m, hm⟩ : ∃ m : Nat, C.max = (m : Int) := ⟨C.max.toNat, by have := (right_of h0).m0; omega⟩
      have hmm : mx = (m : Int) := by rw [← HMX.out, hm]
      subst hmm
      have hm1 : m ≤ 16384 := by have := (right_of h0).m1; omega
      have hmt : C.max.toNat = m := by omega
      have e1 : coneF C L = formC (coneG C L) := if_pos hk
      have e2 : coneN C L = (m : Int) + 1 := by unfold coneN; rw [if_pos hk, hm]
      have e3 : gatesF C = formC C.ands := if_pos h0
      have e4 : varsF C = (m : Int) + 1 := by unfold varsF; rw [if_pos h0, hm]
      rw [e1, e2, hk] at HCON
      rw [e3, e4, h0] at HGAT
      rw [hf, Int.toNat_natCast] at HMOD HVAL
      have hvo := valOk h0 (HO.out h0) hst hrw
      obtain ⟨T, hT⟩ : ∃ T, valF C O st row = T := ⟨_, rfl⟩
      rw [hT] at HMOD HVAL hvo
      have HTL : Hid (T.length = m + 1) := Lib.hid (by rw [← hT, valF_len]; omega)
      have HTH : Hid (holdsC T (formC (coneG C L)) = true) := Lib.hid (vals_hold h0 hvo coneG_mem)
      have HWF := Lib.hid (cone_wf (L := L) h0 hm)
      have HFL : Hid ((formC (coneG C L)).length ≤ 524288) := Lib.hid (by rw [formC_len]; have := (right_of h0).na; have := coneG_len C L; omega)
      have HLE : Hid ((formC (coneG C L)).length ≤ (formC C.ands).length) := Lib.hid (by rw [formC_len, formC_len]; have := coneG_len C L; omega)
      have HLM : Hid (∀ l ∈ L, 0 ≤ l ∧ l / 2 ≤ (m : Int)) := Lib.hid (fun l hl => by
        have := List.all_eq_true.1 hLall l hl
        unfold litK at this
        simp only [Bool.and_eq_true, decide_eq_true_eq] at this
        omega)
      have HLN : Hid (n ≤ 16384) := Lib.hid (by rw [← HNN.out]; exact hLn)
      obtain ⟨F, hF⟩ : ∃ F, formC (coneG C L) = F := ⟨_, rfl⟩
      obtain ⟨F2, hF2⟩ : ∃ F, formC C.ands = F := ⟨_, rfl⟩
      rw [hF] at HCON HTH HWF HFL HLE
      rw [hF2] at HGAT HLE
      have hmk := make_bools (m + 2) (by omega)
      have hmc : ((m + 2 : Nat) : Int) = (m : Int) + 1 + 1 := by push_cast; omega
      rw [hmc] at hmk
      have hmw : IntKind.i64.wrap ((m : Int) + 1 + 1) = (m : Int) + 1 + 1 := i64_in (by omega)
      have HM1 := Lib.hid hm1
      clear h0 hLn hLall hk hf hst hrw hm hmt e1 e2 e3 e4 hT hF hF2 hvo hmc
      go_enter Try.func4, Try.ntmps4
      go_upto_region 1 with (fail)
      rw [HW0.out]
      go_quiet (fail)
      go_upto_region 4 with (go_at_call 5; refine (worksE_any _).mono ?_; rintro e w1 ⟨rfl, hb⟩; have HXN := Lib.hid (bt (below_drewN HX.out _) (Nat.le_refl _) hb); clear HX hb c0 c1 c2 c3 c4 c5 c6 c7 c8 c9 c10; have HX := HXN; clear HXN; obtain ⟨c0, c1, c2, c3, c4, c5, c6, c7, c8, c9, c10⟩ := rbox_of (HALL.out _ HX.out).1)
      go_upto_region 5 with (go_at_call 10; refine (HCON.out _ (HALL.out _ HX.out).2).mono ?_; rintro e w2 ⟨hb, v, us, rfl, hc⟩; obtain ⟨fA, fc, hfe⟩ := own_slice_k hc.own; subst hfe; have HF0 := Lib.hid hc.lists; have HUL := Lib.hid hc.ul; clear hc; have HXN := Lib.hid (bt HX.out (Nat.le_refl _) hb); clear HX hb c0 c1 c2 c3 c4 c5 c6 c7 c8 c9 c10; have HX := HXN; clear HXN; obtain ⟨c0, c1, c2, c3, c4, c5, c6, c7, c8, c9, c10⟩ := rbox_of (HALL.out _ HX.out).1)
      obtain ⟨kU, hkU⟩ : ∃ k, us.length = k := ⟨_, rfl⟩
      have HKU : Hid (F.length = kU) := Lib.hid (by have := HUL.out; omega)
      rw [hkU] at HF0
      rw [hkU]
      obtain ⟨fb, hfb⟩ : ∃ x, w2.heap.size = x := ⟨_, rfl⟩
      obtain ⟨WF, hWF⟩ : ∃ W, w2.alloc (.cells #[.int .i64 ((m : Int) + 1), .slice fA kU fc] 34) = W := ⟨_, rfl⟩
      have HFB : Hid (Blk WF fb 34 #[.int .i64 ((m : Int) + 1), .slice fA kU fc]) := Lib.hid (by rw [← hWF, ← hfb]; exact Blk.new _ _ _)
      have HFN : Hid (Lists WF (.slice fA kU fc) F) := Lib.hid (by rw [← hWF]; exact HF0.out.below ((Below.refl _ _).alloc (Nat.le_refl _) _))
      have HXN : Hid (Below W0.heap.size W0 WF) := Lib.hid (by rw [← hWF]; exact HX.out.alloc HX.out.size _)
      rw [hWF, hfb]
      clear HX c0 c1 c2 c3 c4 c5 c6 c7 c8 c9 c10 HF0 HUL hkU hfb hWF
      have HX := HXN
      clear HXN
      obtain ⟨c0, c1, c2, c3, c4, c5, c6, c7, c8, c9, c10⟩ := rbox_of (HALL.out _ HX.out).1
      go_upto_region 6 with (go_at_call 9; refine (HMOD.out _ (HALL.out _ HX.out).2).mono ?_; rintro e w3 ⟨hb, v, rfl, _, hn2⟩; obtain ⟨mb, hve, hmb, htm⟩ := hn2 (by trivial); subst hve; have HMB := Lib.hid hmb; have HTM := Lib.hid htm; have HFBN := Lib.hid (HFB.out.below hb HFB.out.lt); have HFNN := Lib.hid (HFN.out.below hb); have HFLT := Lib.hid HFB.out.lt; have HWM := Lib.hid (Nat.le_trans HX.out.size hmb); have HBFa := Lib.hid hb; have HFW := HFN; clear HFB HFN hmb htm hn2; have HXN := Lib.hid (bt HX.out (Nat.le_refl _) hb); clear HX hb c0 c1 c2 c3 c4 c5 c6 c7 c8 c9 c10; have HX := HXN; clear HXN; obtain ⟨c0, c1, c2, c3, c4, c5, c6, c7, c8, c9, c10⟩ := rbox_of (HALL.out _ HX.out).1)
      go_upto_region 9 with (go_at_call 11; refine (HVAL.out _ (HALL.out _ HX.out).2).mono ?_; rintro e w4 ⟨hb, v, rfl, _, hn2⟩; obtain ⟨vb, hve, hvb, htv⟩ := hn2 (by trivial); subst hve; have HVB := Lib.hid (Nat.lt_of_lt_of_le HTM.out.lt hvb); have HTV := Lib.hid htv; have HTM4 := Lib.hid (Blk.below HTM.out hb HTM.out.lt); have HFB := Lib.hid (HFBN.out.below hb HFBN.out.lt); have HFN := Lib.hid (HFNN.out.below hb); have HBF4 := Lib.hid (bt HBFa.out (Nat.le_refl _) hb); clear HFBN HFNN HBFa hvb htv hn2; have HXN := Lib.hid (bt HX.out (Nat.le_refl _) hb); clear HX hb c0 c1 c2 c3 c4 c5 c6 c7 c8 c9 c10; have HX := HXN; clear HXN; obtain ⟨c0, c1, c2, c3, c4, c5, c6, c7, c8, c9, c10⟩ := rbox_of (HALL.out _ HX.out).1)
      have f0 := HFB.out.cell 0
      have f1 := HFB.out.cell 1
      simp only [List.getElem?_toArray, List.getElem?_cons_zero, List.getElem?_cons_succ] at f0 f1
      go_upto_region 12 with (fail)
      obtain ⟨g, hg⟩ : ∃ x, w4.heap.size = x := ⟨_, rfl⟩
      obtain ⟨W5, hW5⟩ : ∃ W, w4.alloc (.cells (madeCells #[Value.bool false] (m + 2)) 4) = W := ⟨_, rfl⟩
      have HG4 := Lib.hid hg
      have HB5 : Hid (Below g w4 W5) := Lib.hid (by rw [← hW5, ← hg]; exact (Below.refl _ _).alloc (Nat.le_refl _) _)
      have HS5 : Hid (W5.heap.size = g + 1) := Lib.hid (by rw [← hW5, ← hg]; simp)
      have HU5 : Hid (Tab W5 g (List.replicate (m + 2) false)) := Lib.hid (by
        rw [← hW5, ← hg]
        unfold Tab
        rw [← made_bools]
        exact Blk.new _ _ _)
      have HXN : Hid (Below W0.heap.size W0 W5) := Lib.hid (by rw [← hW5]; exact HX.out.alloc HX.out.size _)
      have HBF5 : Hid (Below WF.heap.size WF W5) := Lib.hid (by rw [← hW5]; exact HBF4.out.alloc HBF4.out.size _)
      have HWG : Hid (WF.heap.size ≤ g) := Lib.hid (by rw [← hg]; exact HBF4.out.size)
      have HF5 : Hid (Blk W5 fb 34 #[.int .i64 ((m : Int) + 1), .slice fA kU fc]) := Lib.hid (by rw [← hW5]; exact HFB.out.alloc _)
      have HFG : Hid (fb < g) := Lib.hid (by rw [← hg]; exact HFB.out.lt)
      have HMG : Hid (mb < g) := Lib.hid (by rw [← hg]; exact HTM4.out.lt)
      have HVG : Hid (vb < g) := Lib.hid (by rw [← hg]; exact HTV.out.lt)
      have HW0G : Hid (W0.heap.size ≤ g) := Lib.hid (by rw [← hg]; exact HX.out.size)
      have f1' := HF5.out.cell 1
      simp only [List.getElem?_toArray, List.getElem?_cons_zero, List.getElem?_cons_succ] at f1'
      rw [hW5, hg]
      clear hg hW5 f0 f1 c0 c1 c2 c3 c4 c5 c6 c7 c8 c9 c10 HX HFB hmk
      have HX5 := HXN
      clear HXN
      obtain ⟨vs, hv1, hv2, hv3⟩ := HFN.out
      obtain ⟨A5, c5, e5, _, _, rv5⟩ := hv1
      injection e5 with e51 e52 e53
      subst e51 e53
      have HVL : Hid (vs.length = kU) := Lib.hid e52.symm
      have HRV := Lib.hid rv5
      have HV3 := Lib.hid hv3
      have hkU9 : kU ≤ 524288 := by rw [← HKU.out]; exact HFL.out
      have HK5 : Hid (KB (g + 1) g W5 W5) := Lib.hid (KB.refl _ _ _)
      clear hv2 hv3 rv5 e52
      go_wp2
      go_loopg [81] kU (fun k i wx => ∃ (q : Nat) (U : List Bool), q ≤ kU ∧ k = kU - q ∧ i = .int .i64 q ∧ Tab wx g U ∧ U.length = m + 2 ∧ (∀ xs ∈ F.take q, ∀ x ∈ xs, U.getD x.natAbs false = true) ∧ KB (g + 1) g W5 wx)
      case atStart => exact ⟨0, _, Nat.zero_le _, rfl, rfl, HU5.out, by simp, by simp, HK5.out⟩
      case round =>
        obtain ⟨q, U, hq, hgk, rfl, htb, hul, hus, hkb⟩ := hrel
        subst hgk
        have HT := Lib.hid htb
        have HUL := Lib.hid hul
        have HUS := Lib.hid hus
        have HK := Lib.hid hkb
        clear htb hul hus hkb HU5 HK5 f1'
        by_cases hlt : q < kU
        · obtain ⟨u, hu⟩ : ∃ x, vs[q]? = some x := ⟨_, List.getElem?_eq_getElem (by rw [HVL.out]; exact hlt)⟩
          obtain ⟨xs, hx⟩ : ∃ x, F[q]? = some x := ⟨_, List.getElem?_eq_getElem (by rw [HKU.out]; exact hlt)⟩
          obtain ⟨b, off, e, hb, hc⟩ := HRV.out q u hu
          subst e
          have hbw := KB.below HB5.out HK.out (by omega) (Nat.le_refl _)
          have h0 := (hbw.cell (p := ⟨b, off + (q * 1 + 0), none⟩) (by rw [← HG4.out]; exact hb)).trans (hc 0 _ rfl)
          simp only [Nat.mul_one, Nat.add_zero] at h0
          obtain ⟨XA, xc, hue, _, _, rX⟩ := HV3.out q u xs hu hx
          obtain ⟨kx, hkx⟩ : ∃ k, xs.length = k := ⟨_, rfl⟩
          rw [hkx] at hue
          subst hue
          have HRX := Lib.hid rX
          have HXL := Lib.hid hkx
          have HWX := Lib.hid (HWF.out xs (List.mem_of_getElem? hx)).2
          have HTK : Hid (F.take (q + 1) = F.take q ++ [xs]) := Lib.hid (by rw [List.take_add_one, hx]; rfl)
          have hkx9 : kx ≤ 3 := by rw [← hkx]; exact (HWF.out xs (List.mem_of_getElem? hx)).1
          clear hc hu hx hbw rX hkx
          go_wp2
          go_loopg [87] kx (fun k i wx => ∃ (j : Nat) (U : List Bool), j ≤ kx ∧ k = kx - j ∧ i = .int .i64 j ∧ Tab wx g U ∧ U.length = m + 2 ∧ (∀ xs ∈ F.take q, ∀ x ∈ xs, U.getD x.natAbs false = true) ∧ (∀ x ∈ xs.take j, U.getD x.natAbs false = true) ∧ KB (g + 1) g W5 wx)
          case atStart => exact ⟨0, U, Nat.zero_le _, rfl, rfl, HT.out, HUL.out, HUS.out, by simp, HK.out⟩
          case round =>
            obtain ⟨j, U', hj, hgj, rfl, htb, hul, hus, hus2, hkb⟩ := hrel
            subst hgj
            clear HT HUL HUS HK h0
            have HT := Lib.hid htb
            have HUL := Lib.hid hul
            have HUS := Lib.hid hus
            have HUS2 := Lib.hid hus2
            have HK := Lib.hid hkb
            clear htb hul hus hus2 hkb
            by_cases hlj : j < kx
            · obtain ⟨x, hx⟩ : ∃ x, xs[j]? = some x := ⟨_, List.getElem?_eq_getElem (by rw [HXL.out]; exact hlj)⟩
              obtain ⟨hx0, hx1⟩ := HWX.out x (List.mem_of_getElem? hx)
              obtain ⟨b, off, e, hb, hc⟩ := HRX.out j x hx
              subst e
              have hbw := KB.below HB5.out HK.out (by omega) (Nat.le_refl _)
              have h0 := (hbw.cell (p := ⟨b, off + (j * 1 + 0), none⟩) (by rw [← HG4.out]; exact hb)).trans (hc 0 _ rfl)
              simp only [Nat.mul_one, Nat.add_zero] at h0
              have HTJ : Hid (xs.take (j + 1) = xs.take j ++ [x]) := Lib.hid (by rw [List.take_add_one, hx]; rfl)
              have hnx : IntKind.i64.wrap (-x) = -x := i64_in (by omega)
              have hgb := Blk.lt HT.out
              have hmx : (max x (-x)).toNat = x.natAbs := by
                by_cases hh : 0 ≤ x
                · rw [Int.max_eq_left (by omega)]; omega
                · rw [Int.max_eq_right (by omega)]; omega
              have hold := HT.out.cell (getD_bool (show (max x (-x)).toNat < U'.length by rw [HUL.out, hmx]; omega))
              have hf1 := Blk.frozen HT.out (max x (-x)).toNat
              have hlx : x < ((m + 2 : Nat) : Int) := by push_cast; omega
              have hlx2 : -x < ((m + 2 : Nat) : Int) := by push_cast; omega
              have hsg : 0 ≤ x ∨ 0 ≤ -x := by omega
              have hsg2 : 0 ≤ x ∨ x ≤ 0 := by omega
              have HREL : Hid (j + 1 ≤ kx ∧ Tab (wr.setCell ⟨g, (max x (-x)).toNat, none⟩ (.bool true)) g (U'.set x.natAbs true) ∧ (U'.set x.natAbs true).length = m + 2 ∧ (∀ xs ∈ F.take q, ∀ x' ∈ xs, (U'.set x.natAbs true).getD x'.natAbs false = true) ∧ (∀ x' ∈ xs.take (j + 1), (U'.set x.natAbs true).getD x'.natAbs false = true) ∧ KB (g + 1) g W5 (wr.setCell ⟨g, (max x (-x)).toNat, none⟩ (.bool true))) := Lib.hid (by
                have hxl : x.natAbs < U'.length := by rw [HUL.out]; omega
                refine ⟨by omega, by rw [← hmx]; exact HT.out.set_ _ _, by rw [List.length_set]; exact HUL.out, fun zs hz x' hx' => (setB_get hxl _).2 (.inl (HUS.out zs hz x' hx')), fun x' hx' => ?_, HK.out.set_ _ _⟩
                rw [HTJ.out, List.mem_append] at hx'
                rcases hx' with hx' | hx'
                · exact (setB_get hxl _).2 (.inl (HUS2.out x' hx'))
                · rw [List.mem_singleton] at hx'
                  subst hx'
                  exact (setB_get hxl _).2 (.inr rfl))
              clear hc hx hbw hmx
              go_wp2
              go_roundg (kx - (j + 1))
              case measure => omega
              case rel =>
                obtain ⟨a1, a2, a3, a4, a5, a6⟩ := HREL.out
                exact ⟨j + 1, _, a1, rfl, by go_num, a2, a3, a4, a5, a6⟩
            · have hje : kx = j := by omega
              subst hje
              have HREL : Hid (∀ zs ∈ F.take (q + 1), ∀ x ∈ zs, U'.getD x.natAbs false = true) := Lib.hid (by
                intro zs hz x hx
                rw [HTK.out, List.mem_append] at hz
                rcases hz with hz | hz
                · exact HUS.out zs hz x hx
                · rw [List.mem_singleton] at hz
                  subst hz
                  have := HUS2.out
                  rw [List.take_of_length_le (by rw [HXL.out]; exact Nat.le_refl _)] at this
                  exact this x hx)
              clear hlj hj
              go_wp2
              go_roundg (kU - (q + 1))
              case measure => omega
              case rel => exact ⟨q + 1, U', by omega, rfl, by go_num, HT.out, HUL.out, HREL.out, HK.out⟩
        · have hqe : kU = q := by omega
          subst hqe
          have HUF : Hid (∀ xs ∈ F, ∀ x ∈ xs, U.getD x.natAbs false = true) := Lib.hid (by
            have := HUS.out
            rwa [List.take_of_length_le (by rw [HKU.out]; exact Nat.le_refl _)] at this)
          clear hlt hq
          have HF6 : Hid (Blk wr fb 34 #[.int .i64 ((m : Int) + 1), .slice fA kU fc]) := Lib.hid (KB.box HF5.out HK.out (by have := HFG.out; omega) (by have := HFG.out; omega))
          have HX6 : Hid (Below W0.heap.size W0 wr) := Lib.hid (KB.below HX5.out HK.out (by have := HW0G.out; omega) HW0G.out)
          have HL6 : Hid (Below g w4 wr) := Lib.hid (KB.below HB5.out HK.out (by omega) (Nat.le_refl _))
          have HBF6 : Hid (Below WF.heap.size WF wr) := Lib.hid (KB.below HBF5.out HK.out (by have := HWG.out; omega) HWG.out)
          have HTM6 : Hid (Tab wr mb T) := Lib.hid (HTM4.out.below HL6.out HMG.out)
          have HTV6 : Hid (Tab wr vb T) := Lib.hid (HTV.out.below HL6.out HVG.out)
          have HTU6 : Hid (Tab wr g U) := Lib.hid HT.out
          clear HF5 HX5 HTM4 HTV HT HK HUS HKX HB5 HS5
          generalize wr = W6 at *
          have HK6 : Hid (KB W6.heap.size mb W6 W6) := Lib.hid (KB.refl _ _ _)
          have HGL : Hid (g < W6.heap.size) := Lib.hid HTU6.out.lt
          go_wp2
          go_loopg [21] m (fun k i wx => ∃ (x : Int) (A : List Bool), 1 ≤ x ∧ x ≤ (m : Int) + 1 ∧ k = ((m : Int) + 1 - x).toNat ∧ i = .int .i64 x ∧ Tab wx mb A ∧ A.length = m + 1 ∧ A.getD 0 false = T.getD 0 false ∧ (∀ j, U.getD (j + 1) false = true → A.getD j false = T.getD j false) ∧ KB W6.heap.size mb W6 wx)
          case atStart => exact ⟨1, T, by omega, by omega, by omega, rfl, HTM6.out, HTL.out, rfl, fun _ _ => rfl, HK6.out⟩
          case round =>
            obtain ⟨x, A, hx1, hx2, hgk, rfl, hta, hal, ha0, hag, hkb⟩ := hrel
            subst hgk
            have HTA := Lib.hid hta
            have HAL := Lib.hid hal
            have HA0 := Lib.hid ha0
            have HAG := Lib.hid hag
            have HK := Lib.hid hkb
            clear hta hal ha0 hag hkb HK6
            by_cases hlt : x < (m : Int) + 1
            · have hlt2 : x < ((m + 1 : Nat) : Int) := by push_cast; omega
              have hw1 : IntKind.i64.wrap (x + 1) = x + 1 := i64_in (by omega)
              have hl2 : x + 1 < ((m + 2 : Nat) : Int) := by push_cast; omega
              have hge : 0 ≤ x + 1 := by omega
              have hge0 : 0 ≤ x := by omega
              have hut : Tab wr g U := KB.box HTU6.out HK.out HGL.out (by have := HMG.out; omega)
              obtain ⟨ub, hub⟩ : ∃ b, U[(x + 1).toNat]? = some b := ⟨_, List.getElem?_eq_getElem (by rw [HUL.out]; omega)⟩
              have hcu := hut.cell hub
              cases ub
              · obtain ⟨ab, hab⟩ : ∃ b, A[x.toNat]? = some b := ⟨_, List.getElem?_eq_getElem (by rw [HAL.out]; omega)⟩
                have hold := HTA.out.cell hab
                have hfr := Blk.frozen HTA.out x.toNat
                have hlb := Blk.lt HTA.out
                have HREL : Hid (Tab (wr.setCell ⟨mb, x.toNat, none⟩ (.bool !ab)) mb (A.set x.toNat (!ab)) ∧ (A.set x.toNat (!ab)).length = m + 1 ∧ (A.set x.toNat (!ab)).getD 0 false = T.getD 0 false ∧ (∀ j, U.getD (j + 1) false = true → (A.set x.toNat (!ab)).getD j false = T.getD j false) ∧ KB W6.heap.size mb W6 (wr.setCell ⟨mb, x.toNat, none⟩ (.bool !ab))) := Lib.hid (by
                  refine ⟨HTA.out.set_ _ _, by rw [List.length_set]; exact HAL.out, ?_, fun j hj => ?_, HK.out.set_ _ _⟩
                  · rw [getD_setF (by omega)]; exact HA0.out
                  · have hne : x.toNat ≠ j := fun e => by
                      subst e
                      rw [show x.toNat + 1 = (x + 1).toNat by omega, List.getD_eq_getElem?_getD, hub] at hj
                      cases hj
                    rw [getD_setF hne]; exact HAG.out j hj)
                clear hab hub hut
                go_wp2
                all_goals go_roundg ((m : Int) + 1 - (x + 1)).toNat
                all_goals first
                  | omega
                  | exact ⟨x + 1, A, by omega, by omega, rfl, by go_num, HTA.out, HAL.out, HA0.out, HAG.out, HK.out⟩
                  | exact ⟨x + 1, _, by omega, by omega, rfl, by go_num, HREL.out.1, HREL.out.2.1, HREL.out.2.2.1, HREL.out.2.2.2.1, HREL.out.2.2.2.2⟩
              · clear hub hut
                go_wp2
                go_roundg ((m : Int) + 1 - (x + 1)).toNat
                case measure => omega
                case rel => exact ⟨x + 1, A, by omega, by omega, rfl, by go_num, HTA.out, HAL.out, HA0.out, HAG.out, HK.out⟩
            · have hlt2 : ¬ x < ((m + 1 : Nat) : Int) := by push_cast; omega
              have HHA : Hid (holdsC A F = true) := Lib.hid (by
                rw [← HTH.out]
                refine agree_all fun zs hz x' hx' => HAG.out _ ?_
                have h1 := (HWF.out zs hz).2 x' hx'
                have := HUF.out zs hz x' hx'
                rwa [show x'.natAbs - 1 + 1 = x'.natAbs by omega])
              have HF7 : Hid (Blk wr fb 34 #[.int .i64 ((m : Int) + 1), .slice fA kU fc]) := Lib.hid (KB.box HF6.out HK.out HF6.out.lt (by have := HFLT.out; have := HMB.out; omega))
              have HX7 : Hid (Below W0.heap.size W0 wr) := Lib.hid (KB.below HX6.out HK.out HX6.out.size HWM.out)
              have HBF7 : Hid (Below WF.heap.size WF wr) := Lib.hid (KB.below HBF6.out HK.out HBF6.out.size HMB.out)
              have HL7 : Hid (Lists wr (.slice fA kU fc) F) := Lib.hid (HFW.out.below HBF7.out)
              have HTV7 : Hid (Tab wr vb T) := Lib.hid (KB.box HTV6.out HK.out HTV6.out.lt (by have := HVB.out; omega))
              have HTU7 : Hid (Tab wr g U) := Lib.hid (KB.box HTU6.out HK.out HGL.out (by have := HMG.out; omega))
              have hmc : (((m + 1 : Nat) : Int)) = (m : Int) + 1 := by push_cast; rfl
              have hrowA : RowE 1 encO wr (.slice (some ⟨mb, 0, none⟩) (m + 1) (m + 1)) A := by
                have := tab_rowK HTA.out (by rw [HAL.out]; simp only [maxLen]; omega)
                rwa [HAL.out] at this
              have hho := cHolds_any wr (.slice fA kU fc) (.slice (some ⟨mb, 0, none⟩) (m + 1) (m + 1)) F A (m + 1) (by omega) HL7.out HFL.out (litsN_ofK HWF.out) hrowA HAL.out
              rw [HHA.out, hmc] at hho
              have HHO := Lib.hid hho
              clear HK HF6 HX6 HTM6 HTV6 HTU6 HL6 HL7 hho hrowA hx1 hx2 hlt hmc
              have f0 := HF7.out.cell 0
              have f1 := HF7.out.cell 1
              simp only [List.getElem?_toArray, List.getElem?_cons_zero, List.getElem?_cons_succ] at f0 f1
              go_upto_region 27 with (go_at_call 7; refine HHO.out.mono ?_; rintro e w8 ⟨⟨ix, rfl⟩, hb8⟩; have HF8 := Lib.hid (HF7.out.below hb8 HF7.out.lt); have HX8 := Lib.hid (bt HX7.out (Nat.le_refl _) hb8); have HTV8 := Lib.hid (Blk.below HTV7.out hb8 HTV7.out.lt); have HTU8 := Lib.hid (Blk.below HTU7.out hb8 HTU7.out.lt); have HTA8 := Lib.hid (Blk.below HTA.out hb8 HTA.out.lt); clear hb8 f0 f1)
              obtain ⟨c0, c1, c2, c3, c4, c5, c6, c7, c8, c9, c10⟩ := rbox_of (HALL.out _ HX8.out).1
              go_upto_region 30 with (go_at_call 6; refine (HGAT.out _ (HALL.out _ HX8.out).2).mono ?_; rintro e w9 ⟨hb9, v, us2, rfl, hc9⟩; obtain ⟨gA, gc, hge⟩ := own_slice_k hc9.own; subst hge; have HUL9 := Lib.hid hc9.ul; have HF9 := Lib.hid (HF8.out.below hb9 HF8.out.lt); have HX9 := Lib.hid (bt HX8.out (Nat.le_refl _) hb9); have HTV9 := Lib.hid (Blk.below HTV8.out hb9 HTV8.out.lt); have HTU9 := Lib.hid (Blk.below HTU8.out hb9 HTU8.out.lt); have HTA9 := Lib.hid (Blk.below HTA8.out hb9 HTA8.out.lt); clear hb9 hc9 c0 c1 c2 c3 c4 c5 c6 c7 c8 c9 c10)
              obtain ⟨k2, hk2⟩ : ∃ k, us2.length = k := ⟨_, rfl⟩
              have hkk : (kU : Int) ≤ (k2 : Int) := by have := HUL9.out; have := HKU.out; have := HLE.out; omega
              rw [hk2]
              obtain ⟨gb, hgb⟩ : ∃ x, w9.heap.size = x := ⟨_, rfl⟩
              obtain ⟨W9, hW9⟩ : ∃ W, w9.alloc (.cells #[.int .i64 ((m : Int) + 1), .slice gA k2 gc] 34) = W := ⟨_, rfl⟩
              have hb9 : Blk W9 gb 34 #[.int .i64 ((m : Int) + 1), .slice gA k2 gc] := by rw [← hW9, ← hgb]; exact Blk.new _ _ _
              have HXA : Hid (Below W0.heap.size W0 W9) := Lib.hid (by rw [← hW9]; exact HX9.out.alloc HX9.out.size _)
              have hfa : Blk W9 fb 34 #[.int .i64 ((m : Int) + 1), .slice fA kU fc] := by rw [← hW9]; exact HF9.out.alloc _
              have HTVA : Hid (Tab W9 vb T) := Lib.hid (by rw [← hW9]; exact Blk.alloc HTV9.out _)
              have HTUA : Hid (Tab W9 g U) := Lib.hid (by rw [← hW9]; exact Blk.alloc HTU9.out _)
              have HTAA : Hid (Tab W9 mb A) := Lib.hid (by rw [← hW9]; exact Blk.alloc HTA9.out _)
              have f1 := hfa.cell 1
              have d1 := hb9.cell 1
              simp only [List.getElem?_toArray, List.getElem?_cons_zero, List.getElem?_cons_succ] at f1 d1
              rw [hW9, hgb]
              clear hb9 hfa hgb hW9 hk2
              have hn9 : n ≤ 16384 := HLN.out
              have HB9 : Hid (Below W9.heap.size W9 W9) := Lib.hid (Below.refl _ _)
              go_wp2
              go_loopg [159] n (fun k i wx => ∃ q : Nat, q ≤ n ∧ k = n - q ∧ i = .int .i64 q ∧ Below W9.heap.size W9 wx)
              case atStart => exact ⟨0, Nat.zero_le _, rfl, rfl, HB9.out⟩
              case round =>
                obtain ⟨q, hq, hgk, rfl, hbw⟩ := hrel
                subst hgk
                have HBW := Lib.hid hbw
                have HXW := Lib.hid (bt HXA.out (Nat.le_refl _) hbw)
                clear hbw HB9 f1 d1
                by_cases hlt : q < n
                · obtain ⟨l, hl⟩ : ∃ l, L[q]? = some l := ⟨_, List.getElem?_eq_getElem (by rw [HNN.out]; exact hlt)⟩
                  obtain ⟨b, off, e, hb, hcell⟩ := HRL.out q l hl
                  subst e
                  have hc0 := ((HALL.out _ HXW.out).2.cell (p := ⟨b, off + (q * 1 + 0), none⟩) hb).trans (hcell 0 _ rfl)
                  simp only [Nat.mul_one, Nat.add_zero] at hc0
                  obtain ⟨hl0, hl1⟩ := HLM.out l (List.mem_of_getElem? hl)
                  have htu := Blk.below HTUA.out HBW.out HTUA.out.lt
                  have hta := Blk.below HTAA.out HBW.out HTAA.out.lt
                  have htv := Blk.below HTVA.out HBW.out HTVA.out.lt
                  obtain ⟨ub, hub⟩ : ∃ x, U[(l / 2 + 1).toNat]? = some x := ⟨_, List.getElem?_eq_getElem (by rw [HUL.out]; omega)⟩
                  obtain ⟨ab, hab⟩ : ∃ x, A[(l / 2).toNat]? = some x := ⟨_, List.getElem?_eq_getElem (by rw [HAL.out]; omega)⟩
                  obtain ⟨tb, htb⟩ : ∃ x, T[(l / 2).toNat]? = some x := ⟨_, List.getElem?_eq_getElem (by rw [HTL.out]; omega)⟩
                  have h1 := Tab.cell htu hub
                  have h2 := Tab.cell hta hab
                  have h3 := Tab.cell htv htb
                  have hq2 := tdiv_nn (b := 2) hl0
                  have hq3 : 0 ≤ l / 2 := by omega
                  have hq4 : l / 2 < (m : Int) + 1 := by omega
                  have hq5 : l / 2 < ((m + 1 : Nat) : Int) := by push_cast; omega
                  have hq6 : 0 ≤ l / 2 + 1 := by omega
                  have hq7 : l / 2 + 1 < ((m + 2 : Nat) : Int) := by push_cast; omega
                  have hq8 : IntKind.i64.wrap (l / 2) = l / 2 := i64_in (by omega)
                  have hq9 : IntKind.i64.wrap (l / 2 + 1) = l / 2 + 1 := i64_in (by omega)
                  have hsame : ub = true → ab = tb := fun hu => by
                    have h5 : U.getD ((l / 2).toNat + 1) false = true := by
                      rw [show (l / 2).toNat + 1 = (l / 2 + 1).toNat by omega, List.getD_eq_getElem?_getD, hub]
                      exact hu
                    have := HAG.out _ h5
                    rw [List.getD_eq_getElem?_getD, List.getD_eq_getElem?_getD, hab, htb] at this
                    exact this
                  clear hcell hl hub hab htb htu hta htv hb
                  cases ub
                  · clear hsame
                    go_upto_region 35 with (fail)
                    go_quiet (fail)
                    go_wp2
                    go_roundg (n - (q + 1))
                    case measure => omega
                    case rel => exact ⟨q + 1, by omega, rfl, by go_num, below_drewN HBW.out _⟩
                  · have he := hsame rfl
                    subst he
                    have hnn : (ab != ab) = false := by simp
                    clear hsame
                    go_upto_region 35 with (fail)
                    go_quiet (fail)
                    go_wp2
                    go_roundg (n - (q + 1))
                    case measure => omega
                    case rel => exact ⟨q + 1, by omega, rfl, by go_num, below_drewN HBW.out _⟩
                · have hqe : n = q := by omega
                  subst hqe
                  clear hlt hq
                  go_wp2
                  go_ret
                  exact ⟨rfl, (HALL.out _ HXW.out).2⟩
    · have hq : (fitE C st row != 0) = true := by simpa using hf
      have HF := Lib.hid hf
      rw [hk] at HCON
      clear HVAL h0 hLn hLall hk hf
      generalize fitE C st row = r at *
      go_enter Try.func4, Try.ntmps4
      go_upto_region 1 with (fail)
      rw [HW0.out]
      go_quiet (fail)
      go_upto_region 4 with (go_at_call 5; refine (worksE_any _).mono ?_; rintro e w1 ⟨rfl, hb⟩; have HXN := Lib.hid (bt (below_drewN HX.out _) (Nat.le_refl _) hb); clear HX hb c0 c1 c2 c3 c4 c5 c6 c7 c8 c9 c10; have HX := HXN; clear HXN; obtain ⟨c0, c1, c2, c3, c4, c5, c6, c7, c8, c9, c10⟩ := rbox_of (HALL.out _ HX.out).1)
      go_upto_region 5 with (go_at_call 10; refine (HCON.out _ (HALL.out _ HX.out).2).mono ?_; rintro e w2 ⟨hb, v, us, rfl, hc⟩; obtain ⟨fA, fc, hfe⟩ := own_slice_k hc.own; subst hfe; clear hc; have HXN := Lib.hid (bt HX.out (Nat.le_refl _) hb); clear HX hb c0 c1 c2 c3 c4 c5 c6 c7 c8 c9 c10; have HX := HXN; clear HXN; obtain ⟨c0, c1, c2, c3, c4, c5, c6, c7, c8, c9, c10⟩ := rbox_of (HALL.out _ HX.out).1)
      have HXN := Lib.hid (HX.out.alloc HX.out.size (.cells #[.int .i64 (coneN C L), .slice fA us.length fc] 34))
      clear HX c0 c1 c2 c3 c4 c5 c6 c7 c8 c9 c10
      have HX := HXN
      clear HXN
      obtain ⟨c0, c1, c2, c3, c4, c5, c6, c7, c8, c9, c10⟩ := rbox_of (HALL.out _ HX.out).1
      go_upto_region 6 with (go_at_call 9; refine (HMOD.out _ (HALL.out _ HX.out).2).mono ?_; rintro e w3 ⟨hb, v, rfl, hn1, _⟩; have hve := hn1 HF.out; subst hve; clear hn1; have HXN := Lib.hid (bt HX.out (Nat.le_refl _) hb); clear HX hb c0 c1 c2 c3 c4 c5 c6 c7 c8 c9 c10; have HX := HXN; clear HXN; obtain ⟨c0, c1, c2, c3, c4, c5, c6, c7, c8, c9, c10⟩ := rbox_of (HALL.out _ HX.out).1)
      go_wp2
      go_ret
      exact ⟨rfl, (HALL.out _ HX.out).2⟩
  · have hkq : (fitK C L != 0) = true := by simpa using hk
    have e1 : coneF C L = [] := if_neg hk
    rw [e1] at HCON
    generalize fitK C L = kE at *
    clear HVAL hk e1
    by_cases hf : fitE C st row = 0
    · have HF := Lib.hid hf
      clear hf
      generalize fitE C st row = r at *
      go_enter Try.func4, Try.ntmps4
      go_upto_region 1 with (fail)
      rw [HW0.out]
      go_quiet (fail)
      go_upto_region 4 with (go_at_call 5; refine (worksE_any _).mono ?_; rintro e w1 ⟨rfl, hb⟩; have HXN := Lib.hid (bt (below_drewN HX.out _) (Nat.le_refl _) hb); clear HX hb c0 c1 c2 c3 c4 c5 c6 c7 c8 c9 c10; have HX := HXN; clear HXN; obtain ⟨c0, c1, c2, c3, c4, c5, c6, c7, c8, c9, c10⟩ := rbox_of (HALL.out _ HX.out).1)
      go_upto_region 5 with (go_at_call 10; refine (HCON.out _ (HALL.out _ HX.out).2).mono ?_; rintro e w2 ⟨hb, v, us, rfl, hc⟩; have hul := hc.ul; rw [List.length_nil] at hul; obtain ⟨fA, fc, hfe⟩ := own_slice_k hc.own; rw [hul] at hfe; subst hfe; clear hc hul; have HXN := Lib.hid (bt HX.out (Nat.le_refl _) hb); clear HX hb c0 c1 c2 c3 c4 c5 c6 c7 c8 c9 c10; have HX := HXN; clear HXN; obtain ⟨c0, c1, c2, c3, c4, c5, c6, c7, c8, c9, c10⟩ := rbox_of (HALL.out _ HX.out).1)
      have HFB := Lib.hid (Blk.new w2 34 #[.int .i64 (coneN C L), .slice fA 0 fc])
      have HXN := Lib.hid (HX.out.alloc HX.out.size (.cells #[.int .i64 (coneN C L), .slice fA 0 fc] 34))
      clear HX c0 c1 c2 c3 c4 c5 c6 c7 c8 c9 c10
      have HX := HXN
      clear HXN
      obtain ⟨c0, c1, c2, c3, c4, c5, c6, c7, c8, c9, c10⟩ := rbox_of (HALL.out _ HX.out).1
      go_upto_region 6 with (go_at_call 9; refine (HMOD.out _ (HALL.out _ HX.out).2).mono ?_; rintro e w3 ⟨hb, v, rfl, _, hn2⟩; obtain ⟨g, hve, _, _⟩ := hn2 HF.out; subst hve; have hfb := HFB.out.below hb HFB.out.lt; have f1 := hfb.cell 1; simp only [List.getElem?_toArray, List.getElem?_cons_zero, List.getElem?_cons_succ] at f1; clear hfb hn2; have HXN := Lib.hid (bt HX.out (Nat.le_refl _) hb); clear HX hb c0 c1 c2 c3 c4 c5 c6 c7 c8 c9 c10; have HX := HXN; clear HXN; obtain ⟨c0, c1, c2, c3, c4, c5, c6, c7, c8, c9, c10⟩ := rbox_of (HALL.out _ HX.out).1)
      go_wp2
      go_ret
      exact ⟨rfl, (HALL.out _ HX.out).2⟩
    · have HF := Lib.hid hf
      clear hf
      generalize fitE C st row = r at *
      go_enter Try.func4, Try.ntmps4
      go_upto_region 1 with (fail)
      rw [HW0.out]
      go_quiet (fail)
      go_upto_region 4 with (go_at_call 5; refine (worksE_any _).mono ?_; rintro e w1 ⟨rfl, hb⟩; have HXN := Lib.hid (bt (below_drewN HX.out _) (Nat.le_refl _) hb); clear HX hb c0 c1 c2 c3 c4 c5 c6 c7 c8 c9 c10; have HX := HXN; clear HXN; obtain ⟨c0, c1, c2, c3, c4, c5, c6, c7, c8, c9, c10⟩ := rbox_of (HALL.out _ HX.out).1)
      go_upto_region 5 with (go_at_call 10; refine (HCON.out _ (HALL.out _ HX.out).2).mono ?_; rintro e w2 ⟨hb, v, us, rfl, hc⟩; obtain ⟨fA, fc, hfe⟩ := own_slice_k hc.own; subst hfe; clear hc; have HXN := Lib.hid (bt HX.out (Nat.le_refl _) hb); clear HX hb c0 c1 c2 c3 c4 c5 c6 c7 c8 c9 c10; have HX := HXN; clear HXN; obtain ⟨c0, c1, c2, c3, c4, c5, c6, c7, c8, c9, c10⟩ := rbox_of (HALL.out _ HX.out).1)
      have HXN := Lib.hid (HX.out.alloc HX.out.size (.cells #[.int .i64 (coneN C L), .slice fA us.length fc] 34))
      clear HX c0 c1 c2 c3 c4 c5 c6 c7 c8 c9 c10
      have HX := HXN
      clear HXN
      obtain ⟨c0, c1, c2, c3, c4, c5, c6, c7, c8, c9, c10⟩ := rbox_of (HALL.out _ HX.out).1
      go_upto_region 6 with (go_at_call 9; refine (HMOD.out _ (HALL.out _ HX.out).2).mono ?_; rintro e w3 ⟨hb, v, rfl, hn1, _⟩; have hve := hn1 HF.out; subst hve; clear hn1; have HXN := Lib.hid (bt HX.out (Nat.le_refl _) hb); clear HX hb c0 c1 c2 c3 c4 c5 c6 c7 c8 c9 c10; have HX := HXN; clear HXN; obtain ⟨c0, c1, c2, c3, c4, c5, c6, c7, c8, c9, c10⟩ := rbox_of (HALL.out _ HX.out).1)
      go_wp2
      go_ret
      exact ⟨rfl, (HALL.out _ HX.out).2⟩
end Go.Proofs.Ytbgdhfnfbahdhab
