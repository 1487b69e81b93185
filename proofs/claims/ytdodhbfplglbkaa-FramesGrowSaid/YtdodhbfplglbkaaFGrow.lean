/- The walk of FramesGrow: for whatever circuit and number the statement's Go function answers true, and nothing that was there has turned. -/
import Derived.Test.YtdodhbfplglbkaaFrmW
namespace Go.Proofs.Ytdodhbfplglbkaa
open Go.RowKit

theorem fitR_ok {C : Circ} {n : Int} (h : fitR C n = 0) : (checkR C).2 = 0 ∧ fitS C.max n = 0 ∧ cntF C n ≤ 524288 := by
  unfold fitR at h
  by_cases h1 : fitN C n = 0
  · rw [if_neg (by rw [h1]; simp)] at h
    by_cases h2 : 524288 < cntF C n
    · rw [if_pos h2] at h; cases h
    · unfold fitN at h1
      by_cases h3 : (checkR C).2 = 0
      · rw [if_neg (by rw [h3]; simp)] at h1
        exact ⟨h3, h1, by omega⟩
      · rw [if_pos h3] at h1; exact absurd h1 h3
  · rw [if_pos h1] at h; exact absurd h h1
theorem runF_len {C : Circ} {n : Int} : (runF C n).length ≤ 524288 := by
  unfold runF
  by_cases h : fitR C n = 0
  · rw [if_pos h]
    obtain ⟨_, h2, h3⟩ := fitR_ok h
    obtain ⟨s1, s2, _⟩ := fitS_ok h2
    have := runT_len C (n.toNat - 1)
    rw [show ((n.toNat - 1 : Nat) : Int) + 1 = n by omega] at this
    omega
  · rw [if_neg h]; exact Nat.zero_le _
/-- A step more: what its formula is made of. -/
theorem run_more {C : Circ} {n : Int} (h : fitR C n = 0) (h1 : fitR C (n + 1) = 0) : fitQ C (n - 1) 1 = 0 ∧ fitQ C n 0 = 0 ∧ runF C (n + 1) = runF C n ++ clsF C (n - 1) 1 [.nxt] ++ clsF C n 0 [.gat, .con] ∧ runN C (n + 1) = runN C n + C.max ∧ 0 ≤ runN C n ∧ runN C n ≤ 262144 ∧ 0 ≤ C.max ∧ C.max ≤ 16384 := by
  obtain ⟨hz, hs, _⟩ := fitR_ok h
  obtain ⟨_, hs1, _⟩ := fitR_ok h1
  obtain ⟨s1, s2, s3⟩ := fitS_ok hs
  obtain ⟨t1, t2, t3⟩ := fitS_ok hs1
  have hr := right_of hz
  have q1 : fitQ C (n - 1) 1 = 0 := by
    unfold fitQ fitP
    rw [if_neg (by rw [hz]; simp), if_neg (by omega), show n - 1 + 1 + 1 = n + 1 by omega]
    exact hs1
  have q2 : fitQ C n 0 = 0 := by
    unfold fitQ fitP
    rw [if_neg (by rw [hz]; simp), if_neg (by omega), show n + 1 + 0 = n + 1 by omega]
    exact hs1
  refine ⟨q1, q2, ?_, ?_, ?_, ?_, hr.m0, hr.m1⟩
  · have e1 : runF C (n + 1) = runT C ((n + 1).toNat - 1) := if_pos h1
    have e2 : runF C n = runT C (n.toNat - 1) := if_pos h
    have e3 : clsF C (n - 1) 1 [.nxt] = [Pt.nxt].flatMap (Pt.cls C (n - 1)) := if_pos q1
    have e4 : clsF C n 0 [.gat, .con] = [Pt.gat, .con].flatMap (Pt.cls C n) := if_pos q2
    rw [e1, e2, e3, e4, show (n + 1).toNat - 1 = (n.toNat - 1) + 1 by omega]
    have e5 : (((n.toNat - 1 : Nat)) : Int) = n - 1 := by omega
    simp only [runT, Pt.cls, List.flatMap_cons, List.flatMap_nil, List.append_nil, e5, show n - 1 + 1 = n by omega, List.append_assoc]
  · have e1 : runN C (n + 1) = 1 + (n + 1) * C.max := if_pos h1
    have e2 : runN C n = 1 + n * C.max := if_pos h
    rw [e1, e2, Int.add_mul]
    omega
  · have e2 : runN C n = 1 + n * C.max := if_pos h
    have := Int.mul_nonneg (show 0 ≤ n by omega) hr.m0
    omega
  · have e2 : runN C n = 1 + n * C.max := if_pos h
    omega
/-- Clauses in rows, one after another. -/
def EachI (w : World) (us : List Value) (F : List (List Int)) : Prop := us.length = F.length ∧ ∀ (i : Nat) (u : Value) (zs : List Int), us[i]? = some u → F[i]? = some zs → RowE 1 encI w u zs
theorem CRow.eachI {w : World} {B : Nat} {v : Value} {us : List Value} {F : List (List Int)} (h : CRow w B v us F) : EachI w us F := ⟨h.ul, fun i u zs hu hz => own_rowe lenI (h.each i u zs hu hz)⟩
theorem EachI.app {w : World} {us us2 : List Value} {F F2 : List (List Int)} (h : EachI w us F) (h2 : EachI w us2 F2) : EachI w (us ++ us2) (F ++ F2) := by
  refine ⟨by rw [List.length_append, List.length_append, h.1, h2.1], fun i u zs hu hz => ?_⟩
  by_cases hi : i < us.length
  · rw [List.getElem?_append_left hi] at hu
    rw [List.getElem?_append_left (by rw [← h.1]; exact hi)] at hz
    exact h.2 i u zs hu hz
  · rw [List.getElem?_append_right (by omega)] at hu
    rw [List.getElem?_append_right (by rw [← h.1]; omega), ← h.1] at hz
    exact h2.2 _ u zs hu hz
theorem EachI.below {w w' : World} {us : List Value} {F : List (List Int)} (h : EachI w us F) (hb : Below w.heap.size w w') : EachI w' us F := ⟨h.1, fun i u zs hu hz => (h.2 i u zs hu hz).below hb⟩
theorem EachI.lists {w : World} {B : Nat} {v : Value} {us : List Value} {F : List (List Int)} (h : EachI w us F) (ho : w.ownsRow B 81 1 v us.length us) : Lists w v F :=
  ⟨us, own_rowe lenV (by rw [flat_vals]; exact ho), h.1, h.2⟩

set_option maxHeartbeats 20000000 in
set_option maxRecDepth 100000 in
theorem framesGrow_walk (w : World) (V : CV) (C : Circ) (n : Int) (h : C.In w V) (ok : C.Ok) (hn : I64 n) :
    Calls Try.prog 8 #[V.val C.max, .int .i64 n] w fun e w' => e = .returned (.bool true) ∧ Below w.heap.size w w' := by
  obtain ⟨W0, hW0⟩ : ∃ W0, w.alloc (.cells (V.cells C.max) 29) = W0 := ⟨_, rfl⟩
  have hbw : Below w.heap.size w W0 := by rw [← hW0]; exact (Below.refl _ _).alloc (Nat.le_refl _) _
  have hx0 : Blk W0 w.heap.size 29 (V.cells C.max) := by rw [← hW0]; exact Blk.new w _ _
  have HW0 := Lib.hid hW0
  have HCO := Lib.hid (fun wx => cost_any wx V C n)
  have HR1 := Lib.hid (fun (wx : World) (hx : C.In wx V) => fRun_any wx V C n hx ok)
  have HR2 := Lib.hid (fun (wx : World) (hx : C.In wx V) => fRun_any wx V C (n + 1) hx ok)
  have HNX := Lib.hid (fun (wx : World) (hx : C.In wx V) => fNext_any wx V C (n - 1) hx ok)
  have HST := Lib.hid (fun (wx : World) (hx : C.In wx V) => fStep_any wx V C n hx ok)
  have HALL : Hid (∀ wz, Below W0.heap.size W0 wz → Blk wz w.heap.size 29 (V.cells C.max) ∧ C.In wz V ∧ Below w.heap.size w wz) := Lib.hid (fun wz hb => ⟨hx0.below hb hx0.lt, (h.below hbw).below hb, hbw.trans (hb.mono hbw.size)⟩)
  have HX : Hid (Below W0.heap.size W0 W0) := Lib.hid (Below.refl _ _)
  obtain ⟨Vi, Vl, Vo, Vb, Vc, Vj, Vf, Va, Vs, Vt⟩ := V
  obtain ⟨c0, c1, c2, c3, c4, c5, c6, c7, c8, c9, c10⟩ := rbox_of (HALL.out _ HX.out).1
  have hn1 : -9223372036854775808 ≤ n := hn.1
  clear h ok hW0 hbw hx0 hn
  obtain ⟨ce, hce⟩ : ∃ b, costF C n = b := ⟨_, rfl⟩
  rw [hce] at HCO
  clear hce
  by_cases h100 : 100 < n
  · cases ce
    · go_enter Try.func8, Try.ntmps8
      go_upto_region 1 with (fail)
      rw [HW0.out]
      go_wp2_with (first
        | (go_at_call 33; refine (worksF_any _).mono ?_; rintro e w1 ⟨rfl, hb⟩; have HXN := Lib.hid (bt HX.out (Nat.le_refl _) hb); clear HX c0 c1 c2 c3 c4 c5 c6 c7 c8 c9 c10; have HX := HXN; clear HXN; obtain ⟨c0, c1, c2, c3, c4, c5, c6, c7, c8, c9, c10⟩ := rbox_of (HALL.out _ HX.out).1; clear hb)
        | (go_at_call 34; refine (HCO.out _).mono ?_; rintro e w2 ⟨rfl, hb⟩; have HXN := Lib.hid (bt HX.out (Nat.le_refl _) hb); clear HX c0 c1 c2 c3 c4 c5 c6 c7 c8 c9 c10; have HX := HXN; clear HXN; obtain ⟨c0, c1, c2, c3, c4, c5, c6, c7, c8, c9, c10⟩ := rbox_of (HALL.out _ HX.out).1; clear hb))
      go_ret
      exact ⟨rfl, (HALL.out _ HX.out).2.2⟩
    · go_enter Try.func8, Try.ntmps8
      go_upto_region 1 with (fail)
      rw [HW0.out]
      go_wp2_with (first
        | (go_at_call 33; refine (worksF_any _).mono ?_; rintro e w1 ⟨rfl, hb⟩; have HXN := Lib.hid (bt HX.out (Nat.le_refl _) hb); clear HX c0 c1 c2 c3 c4 c5 c6 c7 c8 c9 c10; have HX := HXN; clear HXN; obtain ⟨c0, c1, c2, c3, c4, c5, c6, c7, c8, c9, c10⟩ := rbox_of (HALL.out _ HX.out).1; clear hb)
        | (go_at_call 34; refine (HCO.out _).mono ?_; rintro e w2 ⟨rfl, hb⟩; have HXN := Lib.hid (bt HX.out (Nat.le_refl _) hb); clear HX c0 c1 c2 c3 c4 c5 c6 c7 c8 c9 c10; have HX := HXN; clear HXN; obtain ⟨c0, c1, c2, c3, c4, c5, c6, c7, c8, c9, c10⟩ := rbox_of (HALL.out _ HX.out).1; clear hb))
      go_ret
      exact ⟨rfl, (HALL.out _ HX.out).2.2⟩
  · have h101 : n ≤ 100 := by omega
    have hw1 : IntKind.i64.wrap (n + 1) = n + 1 := i64_in (by omega)
    cases ce
    · have HRL := Lib.hid (runF_len (C := C) (n := n))
      obtain ⟨e0, he0⟩ : ∃ x, fitR C n = x := ⟨_, rfl⟩
      obtain ⟨h0, hh0⟩ : ∃ x, fitR C (n + 1) = x := ⟨_, rfl⟩
      obtain ⟨an, han⟩ : ∃ x, runN C n = x := ⟨_, rfl⟩
      obtain ⟨gn, hgn⟩ : ∃ x, runN C (n + 1) = x := ⟨_, rfl⟩
      rw [he0, han] at HR1
      rw [hh0, hgn] at HR2
      by_cases e1 : e0 = 0
      · subst e1
        by_cases e2 : h0 = 0
        · subst e2
          obtain ⟨q1, q2, q3, q4, q5, q6, q7, q8⟩ := run_more he0 hh0
          rw [q1] at HNX
          rw [q2] at HST
          rw [han, hgn] at q4
          rw [han] at q5 q6
          have hw2 : IntKind.i64.wrap (n - 1) = n - 1 := by obtain ⟨_, hs, _⟩ := fitR_ok he0; obtain ⟨s1, s2, _⟩ := fitS_ok hs; exact i64_in (by omega)
          have hw3 : IntKind.i64.wrap (an + C.max) = gn := by rw [q4]; exact i64_in (by omega)
          clear q4
          have HQ3 := Lib.hid q3
          have HL2 : Hid ((clsF C (n - 1) 1 [.nxt]).length ≤ 500000 ∧ (clsF C n 0 [.gat, .con]).length ≤ 500000) := Lib.hid (by
            have hz := (fitR_ok he0).1
            have h1 := pts_len hz (n - 1) [.nxt]
            have h2 := pts_len hz n [.gat, .con]
            simp only [List.length_cons, List.length_nil] at h1 h2
            unfold clsF
            rw [if_pos q1, if_pos q2]
            omega)
          obtain ⟨i0, hi0, hz0, hz1, hz2⟩ := info_of2 infoCl
          have HI0 := Lib.hid (And.intro hi0 (And.intro hz0 (And.intro hz1 hz2)))
          clear hi0 hz0 hz1 hz2 q1 q2 q3 q5 q6 q7 q8 he0 hh0 han hgn
          go_enter Try.func8, Try.ntmps8
          go_upto_region 1 with (fail)
          rw [HW0.out]
          go_upto_region 5 with (first
            | (go_at_call 33; refine (worksF_any _).mono ?_; rintro e w1 ⟨rfl, hb⟩; have HXN := Lib.hid (bt HX.out (Nat.le_refl _) hb); clear HX c0 c1 c2 c3 c4 c5 c6 c7 c8 c9 c10; have HX := HXN; clear HXN; obtain ⟨c0, c1, c2, c3, c4, c5, c6, c7, c8, c9, c10⟩ := rbox_of (HALL.out _ HX.out).1; clear hb)
            | (go_at_call 34; refine (HCO.out _).mono ?_; rintro e w2 ⟨rfl, hb⟩; have HXN := Lib.hid (bt HX.out (Nat.le_refl _) hb); clear HX c0 c1 c2 c3 c4 c5 c6 c7 c8 c9 c10; have HX := HXN; clear HXN; obtain ⟨c0, c1, c2, c3, c4, c5, c6, c7, c8, c9, c10⟩ := rbox_of (HALL.out _ HX.out).1; clear hb))
          go_upto_region 6 with (go_at_call 35; refine (HR1.out _ (HALL.out _ HX.out).2.1).mono ?_; rintro e w3 ⟨hb, v, usa, rfl, ho⟩; obtain ⟨aA, ac, hve⟩ := own_slice_k ho.own; subst hve; have Ha := Lib.hid ho; clear ho; have HXN := Lib.hid (bt HX.out (Nat.le_refl _) hb); clear HX c0 c1 c2 c3 c4 c5 c6 c7 c8 c9 c10; have HX := HXN; clear HXN; obtain ⟨c0, c1, c2, c3, c4, c5, c6, c7, c8, c9, c10⟩ := rbox_of (HALL.out _ HX.out).1; clear hb)
          have HXN := Lib.hid (HX.out.alloc HX.out.size (.cells #[.int .i64 an, .slice aA usa.length ac] 34))
          have Ta := Lib.hid (Ha.out.below ((Below.refl w3.heap.size w3).alloc (Nat.le_refl _) (.cells #[.int .i64 an, .slice aA usa.length ac] 34)))
          have HFa := Lib.hid (Blk.new w3 34 #[.int .i64 an, .slice aA usa.length ac])
          clear HX c0 c1 c2 c3 c4 c5 c6 c7 c8 c9 c10 Ha 
          have HX := HXN
          clear HXN
          have Ha := Ta
          clear Ta
          generalize w3.heap.size = ga at *
          generalize w3.alloc (.cells #[.int .i64 an, .slice aA usa.length ac] 34) = Wa at *
          have a0 := HFa.out.cell 0
          have a1 := HFa.out.cell 1
          simp only [List.getElem?_toArray, List.getElem?_cons_zero, List.getElem?_cons_succ] at a0 a1
          obtain ⟨c0, c1, c2, c3, c4, c5, c6, c7, c8, c9, c10⟩ := rbox_of (HALL.out _ HX.out).1
          go_upto_region 7 with (go_at_call 35; refine (HR2.out _ (HALL.out _ HX.out).2.1).mono ?_; rintro e w4 ⟨hb, v, usg, rfl, ho⟩; obtain ⟨gA, gc, hve⟩ := own_slice_k ho.own; subst hve; have Hg := Lib.hid ho; clear ho; have T := Lib.hid (Ha.out.below hb); clear Ha; have Ha := T; clear T; have T := Lib.hid (HFa.out.below hb HFa.out.lt); clear HFa a0 a1; have HFa := T; clear T; have a0 := HFa.out.cell 0; have a1 := HFa.out.cell 1; simp only [List.getElem?_toArray, List.getElem?_cons_zero, List.getElem?_cons_succ] at a0 a1; have HXN := Lib.hid (bt HX.out (Nat.le_refl _) hb); clear HX c0 c1 c2 c3 c4 c5 c6 c7 c8 c9 c10; have HX := HXN; clear HXN; obtain ⟨c0, c1, c2, c3, c4, c5, c6, c7, c8, c9, c10⟩ := rbox_of (HALL.out _ HX.out).1; clear hb)
          have HXN := Lib.hid (HX.out.alloc HX.out.size (.cells #[.int .i64 gn, .slice gA usg.length gc] 34))
          have Ta := Lib.hid (Ha.out.below ((Below.refl w4.heap.size w4).alloc (Nat.le_refl _) (.cells #[.int .i64 gn, .slice gA usg.length gc] 34)))
          have Tg := Lib.hid (Hg.out.below ((Below.refl w4.heap.size w4).alloc (Nat.le_refl _) (.cells #[.int .i64 gn, .slice gA usg.length gc] 34)))
          have TFa := Lib.hid (HFa.out.alloc (.cells #[.int .i64 gn, .slice gA usg.length gc] 34))
          have HFg := Lib.hid (Blk.new w4 34 #[.int .i64 gn, .slice gA usg.length gc])
          clear HX c0 c1 c2 c3 c4 c5 c6 c7 c8 c9 c10 Ha Hg HFa a0 a1
          have HX := HXN
          clear HXN
          have Ha := Ta
          clear Ta
          have Hg := Tg
          clear Tg
          have HFa := TFa
          clear TFa
          generalize w4.heap.size = gg at *
          generalize w4.alloc (.cells #[.int .i64 gn, .slice gA usg.length gc] 34) = Wg at *
          have a0 := HFa.out.cell 0
          have a1 := HFa.out.cell 1
          simp only [List.getElem?_toArray, List.getElem?_cons_zero, List.getElem?_cons_succ] at a0 a1
          have g0 := HFg.out.cell 0
          have g1 := HFg.out.cell 1
          simp only [List.getElem?_toArray, List.getElem?_cons_zero, List.getElem?_cons_succ] at g0 g1
          obtain ⟨c0, c1, c2, c3, c4, c5, c6, c7, c8, c9, c10⟩ := rbox_of (HALL.out _ HX.out).1
          go_upto_region 10 with (go_at_call 28; refine (HNX.out _ (HALL.out _ HX.out).2.1).mono ?_; rintro e w5 ⟨hb, v, usx, rfl, ho⟩; obtain ⟨xA, xc, hve⟩ := own_slice_k ho.own; subst hve; have Hx := Lib.hid ho; clear ho; have T := Lib.hid (Ha.out.below hb); clear Ha; have Ha := T; clear T; have T := Lib.hid (Hg.out.below hb); clear Hg; have Hg := T; clear T; have T := Lib.hid (HFa.out.below hb HFa.out.lt); clear HFa a0 a1; have HFa := T; clear T; have a0 := HFa.out.cell 0; have a1 := HFa.out.cell 1; simp only [List.getElem?_toArray, List.getElem?_cons_zero, List.getElem?_cons_succ] at a0 a1; have T := Lib.hid (HFg.out.below hb HFg.out.lt); clear HFg g0 g1; have HFg := T; clear T; have g0 := HFg.out.cell 0; have g1 := HFg.out.cell 1; simp only [List.getElem?_toArray, List.getElem?_cons_zero, List.getElem?_cons_succ] at g0 g1; have HXN := Lib.hid (bt HX.out (Nat.le_refl _) hb); clear HX c0 c1 c2 c3 c4 c5 c6 c7 c8 c9 c10; have HX := HXN; clear HXN; obtain ⟨c0, c1, c2, c3, c4, c5, c6, c7, c8, c9, c10⟩ := rbox_of (HALL.out _ HX.out).1; clear hb)
          go_upto_region 11 with (go_at_call 26; refine (HST.out _ (HALL.out _ HX.out).2.1).mono ?_; rintro e w6 ⟨hb, v, usy, rfl, ho⟩; obtain ⟨yA, yc, hve⟩ := own_slice_k ho.own; subst hve; have Hy := Lib.hid ho; clear ho; have T := Lib.hid (Ha.out.below hb); clear Ha; have Ha := T; clear T; have T := Lib.hid (Hg.out.below hb); clear Hg; have Hg := T; clear T; have T := Lib.hid (Hx.out.below hb); clear Hx; have Hx := T; clear T; have T := Lib.hid (HFa.out.below hb HFa.out.lt); clear HFa a0 a1; have HFa := T; clear T; have a0 := HFa.out.cell 0; have a1 := HFa.out.cell 1; simp only [List.getElem?_toArray, List.getElem?_cons_zero, List.getElem?_cons_succ] at a0 a1; have T := Lib.hid (HFg.out.below hb HFg.out.lt); clear HFg g0 g1; have HFg := T; clear T; have g0 := HFg.out.cell 0; have g1 := HFg.out.cell 1; simp only [List.getElem?_toArray, List.getElem?_cons_zero, List.getElem?_cons_succ] at g0 g1; have HXN := Lib.hid (bt HX.out (Nat.le_refl _) hb); clear HX c0 c1 c2 c3 c4 c5 c6 c7 c8 c9 c10; have HX := HXN; clear HXN; obtain ⟨c0, c1, c2, c3, c4, c5, c6, c7, c8, c9, c10⟩ := rbox_of (HALL.out _ HX.out).1; clear hb)
          go_upto_region 13 with (fail)
          have HE := Lib.hid ((Ha.out.eachI.app Hx.out.eachI).app Hy.out.eachI)
          have la : usa.length ≤ 524288 := by rw [Ha.out.ul]; exact HRL.out
          have lx : usx.length ≤ 500000 := by rw [Hx.out.ul]; exact HL2.out.1
          have ly : usy.length ≤ 500000 := by rw [Hy.out.ul]; exact HL2.out.2
          have LNS := Lib.hid (And.intro la (And.intro lx ly))
          have HRA := Lib.hid (rowF _ _ _ _ _ Ha.out.cls.row).2
          have HRX := Lib.hid (rowF _ _ _ _ _ Hx.out.cls.row).2
          have HRY := Lib.hid (rowF _ _ _ _ _ Hy.out.cls.row).2
          have HOA := Lib.hid Ha.out.cls.one
          have HOX := Lib.hid Hx.out.cls.one
          have HOY := Lib.hid Hy.out.cls.one
          clear la lx ly
          obtain ⟨N, hN⟩ : ∃ N, w6.heap.size = N := ⟨_, rfl⟩
          have HNN := Lib.hid hN
          clear hN
          have hal : Below w6.heap.size w6 (w6.alloc (.cells #[] 81)) := (Below.refl _ _).alloc (Nat.le_refl _) _
          have HAL := Lib.hid hal
          have HOE : Hid ((w6.alloc (.cells #[] 81)).ownsRow w6.heap.size 81 1 (.slice (some ⟨w6.heap.size, 0, none⟩) 0 0) 0 []) := Lib.hid (blk_ownR (Blk.new w6 81 #[]) (Nat.le_refl _) rfl (by simp))
          have a1b := (HFa.out.alloc (.cells #[] 81)).cell 1
          simp only [List.getElem?_toArray, List.getElem?_cons_zero, List.getElem?_cons_succ] at a1b
          clear hal
          go_upto_region 14 with (first
            | (at_builtin; (refine wpList_append_any _ rfl (.tmp 69) (.tmp 71) _ rfl w6.heap.size 81 i0 _ 1 24 Try.underlying32 HI0.out.1 HI0.out.2.1 HI0.out.2.2.1 HI0.out.2.2.2 rfl (by omega) (.slice (some ⟨w6.heap.size, 0, none⟩) 0 0) 0 [] rfl HOE.out w6.heap.size aA usa.length ac usa rfl (HRA.out.below HAL.out) HOA.out (by have := LNS.out; simp only [maxLen]; omega) (by have := LNS.out; omega) HAL.out.size ?_; intro v7 w7 ho7 hg7 ht7; have HO7 := Lib.hid ho7; have HB7 : Hid (Below w6.heap.size w6 w7) := Lib.hid (HAL.out.grown hg7 HAL.out.size (fun k hk => (HOE.out.lt k hk).1)); clear ho7 hg7 ht7))
            | (at_builtin; (refine wpList_append_any _ rfl (.tmp 72) (.tmp 73) _ rfl w6.heap.size 81 i0 _ 1 24 Try.underlying32 HI0.out.1 HI0.out.2.1 HI0.out.2.2.1 HI0.out.2.2.2 rfl (by omega) v7 _ _ rfl HO7.out w6.heap.size xA usx.length xc usx rfl (HRX.out.below HB7.out) HOX.out (by have := LNS.out; simp only [maxLen]; omega) (by have := LNS.out; omega) HB7.out.size ?_; intro v8 w8 ho8 hg8 ht8; have HO8 := Lib.hid ho8; have HB8 : Hid (Below w6.heap.size w6 w8) := Lib.hid (HB7.out.grown hg8 HB7.out.size (fun k hk => (HO7.out.lt k hk).1)); clear ho8 hg8 ht8))
            | (at_builtin; (refine wpList_append_any _ rfl (.tmp 74) (.tmp 75) _ rfl w6.heap.size 81 i0 _ 1 24 Try.underlying32 HI0.out.1 HI0.out.2.1 HI0.out.2.2.1 HI0.out.2.2.2 rfl (by omega) v8 _ _ rfl HO8.out w6.heap.size yA usy.length yc usy rfl (HRY.out.below HB8.out) HOY.out (by have := LNS.out; simp only [maxLen]; omega) (by have := LNS.out; omega) HB8.out.size ?_; intro v9 w9 ho9 hg9 ht9; have HO9 := Lib.hid ho9; have HB9 : Hid (Below w6.heap.size w6 w9) := Lib.hid (HB8.out.grown hg9 HB8.out.size (fun k hk => (HO8.out.lt k hk).1)); clear ho9 hg9 ht9)))
          obtain ⟨L9, hl9⟩ : ∃ L, 0 + usa.length + usx.length + usy.length = L := ⟨_, rfl⟩
          rw [hl9] at HO9
          have HL9 : Hid ((usa ++ usx ++ usy).length = L9) := Lib.hid (by rw [← hl9]; simp [Nat.add_assoc])
          clear hl9
          obtain ⟨A9, c9', e9⟩ := own_slice_k HO9.out
          subst e9
          have hb := HB9.out
          have HLA := Lib.hid ((HE.out.below hb).lists (v := .slice A9 L9 c9') (B := w6.heap.size) (by have := HO9.out; rw [HL9.out]; simpa using this))
          have HLG := Lib.hid (Hg.out.lists.below hb)
          have T := Lib.hid (HFa.out.below hb HFa.out.lt)
          clear HFa a0 a1
          have HFa := T
          clear T
          have T := Lib.hid (HFg.out.below hb HFg.out.lt)
          clear HFg g0 g1
          have HFg := T
          clear T
          have a0 := HFa.out.cell 0
          have a1 := HFa.out.cell 1
          simp only [List.getElem?_toArray, List.getElem?_cons_zero, List.getElem?_cons_succ] at a0 a1
          have g0 := HFg.out.cell 0
          have g1 := HFg.out.cell 1
          simp only [List.getElem?_toArray, List.getElem?_cons_zero, List.getElem?_cons_succ] at g0 g1
          have HXN := Lib.hid (bt HX.out (Nat.le_refl _) hb)
          clear HX a1b HO7 HO8 HO9 HB7 HB8 HB9 HRA HRX HRY HOA HOX HOY HE HOE HAL Ha Hg Hx Hy c0 c1 c2 c3 c4 c5 c6 c7 c8 c9 c10
          have HX := HXN
          clear HXN hb
          obtain ⟨c0, c1, c2, c3, c4, c5, c6, c7, c8, c9, c10⟩ := rbox_of (HALL.out _ HX.out).1
          have HSC : Hid (∀ wx, Lists wx (.slice A9 L9 c9') (runF C n ++ clsF C (n - 1) 1 [.nxt] ++ clsF C n 0 [.gat, .con]) → Lists wx (.slice gA usg.length gc) (runF C (n + 1)) → Calls Try.prog 32 #[.slice A9 L9 c9', .slice gA usg.length gc] wx fun e w' => e = .returned (.bool true) ∧ Below wx.heap.size wx w') := Lib.hid (fun wx h1 h2 => by
            have := SameClausesE_any wx _ _ _ _ h1 h2
            rwa [decide_eq_true HQ3.out.symm] at this)
          go_wp2_with (go_at_call 32; refine (HSC.out _ HLA.out HLG.out).mono ?_; rintro e w10 ⟨rfl, hb⟩; have HXN := Lib.hid (bt HX.out (Nat.le_refl _) hb); clear HX hb; have HX := HXN; clear HXN)
          go_ret
          exact ⟨rfl, (HALL.out _ HX.out).2.2⟩
        · have hq2 : (h0 != 0) = true := by simpa using e2
          clear he0 hh0 han hgn e2
          go_enter Try.func8, Try.ntmps8
          go_upto_region 1 with (fail)
          rw [HW0.out]
          go_upto_region 5 with (first
            | (go_at_call 33; refine (worksF_any _).mono ?_; rintro e w1 ⟨rfl, hb⟩; have HXN := Lib.hid (bt HX.out (Nat.le_refl _) hb); clear HX c0 c1 c2 c3 c4 c5 c6 c7 c8 c9 c10; have HX := HXN; clear HXN; obtain ⟨c0, c1, c2, c3, c4, c5, c6, c7, c8, c9, c10⟩ := rbox_of (HALL.out _ HX.out).1; clear hb)
            | (go_at_call 34; refine (HCO.out _).mono ?_; rintro e w2 ⟨rfl, hb⟩; have HXN := Lib.hid (bt HX.out (Nat.le_refl _) hb); clear HX c0 c1 c2 c3 c4 c5 c6 c7 c8 c9 c10; have HX := HXN; clear HXN; obtain ⟨c0, c1, c2, c3, c4, c5, c6, c7, c8, c9, c10⟩ := rbox_of (HALL.out _ HX.out).1; clear hb))
          go_upto_region 6 with (go_at_call 35; refine (HR1.out _ (HALL.out _ HX.out).2.1).mono ?_; rintro e w3 ⟨hb, v, usa, rfl, ho⟩; obtain ⟨aA, ac, hve⟩ := own_slice_k ho.own; subst hve; have Ha := Lib.hid ho; clear ho; have HXN := Lib.hid (bt HX.out (Nat.le_refl _) hb); clear HX c0 c1 c2 c3 c4 c5 c6 c7 c8 c9 c10; have HX := HXN; clear HXN; obtain ⟨c0, c1, c2, c3, c4, c5, c6, c7, c8, c9, c10⟩ := rbox_of (HALL.out _ HX.out).1; clear hb)
          have HXN := Lib.hid (HX.out.alloc HX.out.size (.cells #[.int .i64 an, .slice aA usa.length ac] 34))
          have Ta := Lib.hid (Ha.out.below ((Below.refl w3.heap.size w3).alloc (Nat.le_refl _) (.cells #[.int .i64 an, .slice aA usa.length ac] 34)))
          have HFa := Lib.hid (Blk.new w3 34 #[.int .i64 an, .slice aA usa.length ac])
          clear HX c0 c1 c2 c3 c4 c5 c6 c7 c8 c9 c10 Ha 
          have HX := HXN
          clear HXN
          have Ha := Ta
          clear Ta
          generalize w3.heap.size = ga at *
          generalize w3.alloc (.cells #[.int .i64 an, .slice aA usa.length ac] 34) = Wa at *
          have a0 := HFa.out.cell 0
          have a1 := HFa.out.cell 1
          simp only [List.getElem?_toArray, List.getElem?_cons_zero, List.getElem?_cons_succ] at a0 a1
          obtain ⟨c0, c1, c2, c3, c4, c5, c6, c7, c8, c9, c10⟩ := rbox_of (HALL.out _ HX.out).1
          go_upto_region 7 with (go_at_call 35; refine (HR2.out _ (HALL.out _ HX.out).2.1).mono ?_; rintro e w4 ⟨hb, v, usg, rfl, ho⟩; obtain ⟨gA, gc, hve⟩ := own_slice_k ho.own; subst hve; have Hg := Lib.hid ho; clear ho; have T := Lib.hid (Ha.out.below hb); clear Ha; have Ha := T; clear T; have T := Lib.hid (HFa.out.below hb HFa.out.lt); clear HFa a0 a1; have HFa := T; clear T; have a0 := HFa.out.cell 0; have a1 := HFa.out.cell 1; simp only [List.getElem?_toArray, List.getElem?_cons_zero, List.getElem?_cons_succ] at a0 a1; have HXN := Lib.hid (bt HX.out (Nat.le_refl _) hb); clear HX c0 c1 c2 c3 c4 c5 c6 c7 c8 c9 c10; have HX := HXN; clear HXN; obtain ⟨c0, c1, c2, c3, c4, c5, c6, c7, c8, c9, c10⟩ := rbox_of (HALL.out _ HX.out).1; clear hb)
          have HXN := Lib.hid (HX.out.alloc HX.out.size (.cells #[.int .i64 gn, .slice gA usg.length gc] 34))
          have Ta := Lib.hid (Ha.out.below ((Below.refl w4.heap.size w4).alloc (Nat.le_refl _) (.cells #[.int .i64 gn, .slice gA usg.length gc] 34)))
          have Tg := Lib.hid (Hg.out.below ((Below.refl w4.heap.size w4).alloc (Nat.le_refl _) (.cells #[.int .i64 gn, .slice gA usg.length gc] 34)))
          have TFa := Lib.hid (HFa.out.alloc (.cells #[.int .i64 gn, .slice gA usg.length gc] 34))
          have HFg := Lib.hid (Blk.new w4 34 #[.int .i64 gn, .slice gA usg.length gc])
          clear HX c0 c1 c2 c3 c4 c5 c6 c7 c8 c9 c10 Ha Hg HFa a0 a1
          have HX := HXN
          clear HXN
          have Ha := Ta
          clear Ta
          have Hg := Tg
          clear Tg
          have HFa := TFa
          clear TFa
          generalize w4.heap.size = gg at *
          generalize w4.alloc (.cells #[.int .i64 gn, .slice gA usg.length gc] 34) = Wg at *
          have a0 := HFa.out.cell 0
          have a1 := HFa.out.cell 1
          simp only [List.getElem?_toArray, List.getElem?_cons_zero, List.getElem?_cons_succ] at a0 a1
          have g0 := HFg.out.cell 0
          have g1 := HFg.out.cell 1
          simp only [List.getElem?_toArray, List.getElem?_cons_zero, List.getElem?_cons_succ] at g0 g1
          obtain ⟨c0, c1, c2, c3, c4, c5, c6, c7, c8, c9, c10⟩ := rbox_of (HALL.out _ HX.out).1
          go_wp2
          go_ret
          exact ⟨rfl, (HALL.out _ HX.out).2.2⟩
      · have hq1 : (e0 != 0) = true := by simpa using e1
        have hq3 : (e0 == 0) = false := by simpa using e1
        have HZL : Hid (runF C n = []) := Lib.hid (if_neg (by rw [he0]; exact e1))
        clear he0 hh0 han hgn e1
        go_enter Try.func8, Try.ntmps8
        go_upto_region 1 with (fail)
        rw [HW0.out]
        go_upto_region 5 with (first
          | (go_at_call 33; refine (worksF_any _).mono ?_; rintro e w1 ⟨rfl, hb⟩; have HXN := Lib.hid (bt HX.out (Nat.le_refl _) hb); clear HX c0 c1 c2 c3 c4 c5 c6 c7 c8 c9 c10; have HX := HXN; clear HXN; obtain ⟨c0, c1, c2, c3, c4, c5, c6, c7, c8, c9, c10⟩ := rbox_of (HALL.out _ HX.out).1; clear hb)
          | (go_at_call 34; refine (HCO.out _).mono ?_; rintro e w2 ⟨rfl, hb⟩; have HXN := Lib.hid (bt HX.out (Nat.le_refl _) hb); clear HX c0 c1 c2 c3 c4 c5 c6 c7 c8 c9 c10; have HX := HXN; clear HXN; obtain ⟨c0, c1, c2, c3, c4, c5, c6, c7, c8, c9, c10⟩ := rbox_of (HALL.out _ HX.out).1; clear hb))
        go_upto_region 6 with (go_at_call 35; refine (HR1.out _ (HALL.out _ HX.out).2.1).mono ?_; rintro e w3 ⟨hb, v, usa, rfl, ho⟩; obtain ⟨aA, ac, hve⟩ := own_slice_k ho.own; subst hve; have Ha := Lib.hid ho; clear ho; have HXN := Lib.hid (bt HX.out (Nat.le_refl _) hb); clear HX c0 c1 c2 c3 c4 c5 c6 c7 c8 c9 c10; have HX := HXN; clear HXN; obtain ⟨c0, c1, c2, c3, c4, c5, c6, c7, c8, c9, c10⟩ := rbox_of (HALL.out _ HX.out).1; clear hb)
        have HXN := Lib.hid (HX.out.alloc HX.out.size (.cells #[.int .i64 an, .slice aA usa.length ac] 34))
        have Ta := Lib.hid (Ha.out.below ((Below.refl w3.heap.size w3).alloc (Nat.le_refl _) (.cells #[.int .i64 an, .slice aA usa.length ac] 34)))
        have HFa := Lib.hid (Blk.new w3 34 #[.int .i64 an, .slice aA usa.length ac])
        clear HX c0 c1 c2 c3 c4 c5 c6 c7 c8 c9 c10 Ha 
        have HX := HXN
        clear HXN
        have Ha := Ta
        clear Ta
        generalize w3.heap.size = ga at *
        generalize w3.alloc (.cells #[.int .i64 an, .slice aA usa.length ac] 34) = Wa at *
        have a0 := HFa.out.cell 0
        have a1 := HFa.out.cell 1
        simp only [List.getElem?_toArray, List.getElem?_cons_zero, List.getElem?_cons_succ] at a0 a1
        obtain ⟨c0, c1, c2, c3, c4, c5, c6, c7, c8, c9, c10⟩ := rbox_of (HALL.out _ HX.out).1
        go_upto_region 7 with (go_at_call 35; refine (HR2.out _ (HALL.out _ HX.out).2.1).mono ?_; rintro e w4 ⟨hb, v, usg, rfl, ho⟩; obtain ⟨gA, gc, hve⟩ := own_slice_k ho.own; subst hve; have Hg := Lib.hid ho; clear ho; have T := Lib.hid (Ha.out.below hb); clear Ha; have Ha := T; clear T; have T := Lib.hid (HFa.out.below hb HFa.out.lt); clear HFa a0 a1; have HFa := T; clear T; have a0 := HFa.out.cell 0; have a1 := HFa.out.cell 1; simp only [List.getElem?_toArray, List.getElem?_cons_zero, List.getElem?_cons_succ] at a0 a1; have HXN := Lib.hid (bt HX.out (Nat.le_refl _) hb); clear HX c0 c1 c2 c3 c4 c5 c6 c7 c8 c9 c10; have HX := HXN; clear HXN; obtain ⟨c0, c1, c2, c3, c4, c5, c6, c7, c8, c9, c10⟩ := rbox_of (HALL.out _ HX.out).1; clear hb)
        have HXN := Lib.hid (HX.out.alloc HX.out.size (.cells #[.int .i64 gn, .slice gA usg.length gc] 34))
        have Ta := Lib.hid (Ha.out.below ((Below.refl w4.heap.size w4).alloc (Nat.le_refl _) (.cells #[.int .i64 gn, .slice gA usg.length gc] 34)))
        have Tg := Lib.hid (Hg.out.below ((Below.refl w4.heap.size w4).alloc (Nat.le_refl _) (.cells #[.int .i64 gn, .slice gA usg.length gc] 34)))
        have TFa := Lib.hid (HFa.out.alloc (.cells #[.int .i64 gn, .slice gA usg.length gc] 34))
        have HFg := Lib.hid (Blk.new w4 34 #[.int .i64 gn, .slice gA usg.length gc])
        clear HX c0 c1 c2 c3 c4 c5 c6 c7 c8 c9 c10 Ha Hg HFa a0 a1
        have HX := HXN
        clear HXN
        have Ha := Ta
        clear Ta
        have Hg := Tg
        clear Tg
        have HFa := TFa
        clear TFa
        generalize w4.heap.size = gg at *
        generalize w4.alloc (.cells #[.int .i64 gn, .slice gA usg.length gc] 34) = Wg at *
        have a0 := HFa.out.cell 0
        have a1 := HFa.out.cell 1
        simp only [List.getElem?_toArray, List.getElem?_cons_zero, List.getElem?_cons_succ] at a0 a1
        have g0 := HFg.out.cell 0
        have g1 := HFg.out.cell 1
        simp only [List.getElem?_toArray, List.getElem?_cons_zero, List.getElem?_cons_succ] at g0 g1
        obtain ⟨c0, c1, c2, c3, c4, c5, c6, c7, c8, c9, c10⟩ := rbox_of (HALL.out _ HX.out).1
        have hl0 : usa.length = 0 := by rw [Ha.out.ul, HZL.out]; rfl
        rw [hl0] at a1
        go_wp2
        go_ret
        exact ⟨rfl, (HALL.out _ HX.out).2.2⟩
    · go_enter Try.func8, Try.ntmps8
      go_upto_region 1 with (fail)
      rw [HW0.out]
      go_wp2_with (first
        | (go_at_call 33; refine (worksF_any _).mono ?_; rintro e w1 ⟨rfl, hb⟩; have HXN := Lib.hid (bt HX.out (Nat.le_refl _) hb); clear HX c0 c1 c2 c3 c4 c5 c6 c7 c8 c9 c10; have HX := HXN; clear HXN; obtain ⟨c0, c1, c2, c3, c4, c5, c6, c7, c8, c9, c10⟩ := rbox_of (HALL.out _ HX.out).1; clear hb)
        | (go_at_call 34; refine (HCO.out _).mono ?_; rintro e w2 ⟨rfl, hb⟩; have HXN := Lib.hid (bt HX.out (Nat.le_refl _) hb); clear HX c0 c1 c2 c3 c4 c5 c6 c7 c8 c9 c10; have HX := HXN; clear HXN; obtain ⟨c0, c1, c2, c3, c4, c5, c6, c7, c8, c9, c10⟩ := rbox_of (HALL.out _ HX.out).1; clear hb))
      go_ret
      exact ⟨rfl, (HALL.out _ HX.out).2.2⟩
end Go.Proofs.Ytdodhbfplglbkaa
