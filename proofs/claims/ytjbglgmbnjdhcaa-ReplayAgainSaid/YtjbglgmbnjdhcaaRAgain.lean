/- Replay: ReplayAgain: the walk of the statement. -/
import Derived.Test.YtjbglgmbnjdhcaaRplW
import Derived.Test.YtjbglgmbnjdhcaaArgS
namespace Go.Proofs.Ytjbglgmbnjdhcaa
open Go.RowKit

theorem firstB_nn {α : Type} {p : α → Bool} {l : List α} (h : firstB p l 0 ≠ -1) : 0 ≤ firstB p l 0 := by
  rcases firstB_ge (p := p) l 0 with h1 | h1
  · exact absurd h1 h
  · simpa using h1
theorem just_at {C : Circ} {O : List Int} {j : Int} {t : Tr} (h : (justR C O j t).2 ≠ 0) : 0 ≤ (justR C O j t).1 := by
  unfold justR at h ⊢
  split
  · exact Int.le_refl _
  · split
    · exact Int.le_refl _
    · split
      · unfold walkR
        split
        · exact Int.le_refl _
        · split
          · rename_i h9; exact firstB_nn h9
          · split
            · rename_i h9; exact firstB_nn h9
            · exact Int.le_refl _
      · rename_i h3
        have hw := walk_ok (Decidable.not_not.1 h3)
        have hn := hw.1.n1
        split
        · simp only; omega
        · split
          · rename_i h9; exact firstB_nn h9
          · rename_i h1 h2 h4 h5
            rw [if_neg h1, if_neg h2, if_neg h3, if_neg h4, if_neg h5] at h
            exact absurd rfl h
theorem rowE_dropR {E : Type} {s : Nat} {enc : E → List Value} {w : World} {b off n c : Nat} {zs : List E} (h : RowE s enc w (.slice (some ⟨b, off, none⟩) n c) zs) {k : Nat} (hk : k ≤ n) : RowE s enc w (.slice (some ⟨b, off + k * s, none⟩) (n - k) (c - k)) (zs.drop k) := by
  obtain ⟨A, c', e, h1, h2, h3⟩ := h
  injection e with e1 e2 e3
  subst e1 e2 e3
  refine ⟨_, c - k, by rw [List.length_drop], by rw [List.length_drop]; omega, by omega, fun i z hz => ?_⟩
  rw [List.getElem?_drop] at hz
  obtain ⟨b', off', e, hb, hc⟩ := h3 (k + i) z hz
  injection e with e
  injection e with e1 e2 _
  subst e1 e2
  refine ⟨b, _, rfl, hb, fun j u hu => ?_⟩
  rw [← hc j u hu]
  congr 2
  rw [Nat.add_mul]
  omega
theorem infoBR : (Try.prog.info? 46).map (fun i => (i.zero, i.size, i.bytes)) = some (some (.slice none 0 0), 1, 24) := by kernel_rfl
theorem rowR (w : World) (A : Option Addr) (n c : Nat) (vs : List Value) (h : RowE 1 encV w (.slice A n c) vs) : Reads w w.heap.size 1 A n vs := by
  obtain ⟨A', c', e, hr⟩ := h.reads lenV (by omega)
  injection e with e1 e2 e3
  subst e1 e2
  rwa [flat_vals] at hr
theorem listsO_one {w : World} {vs : List Value} {rows : List (List Bool)} (hl : vs.length = rows.length) (h : ∀ (i : Nat) (u : Value) (zs : List Bool), vs[i]? = some u → rows[i]? = some zs → RowE 1 encO w u zs) : ∀ u ∈ vs, u.oneCell' = true := fun u hu => by
  obtain ⟨i, hi⟩ := List.getElem?_of_mem hu
  have hil := (List.getElem?_eq_some_iff.1 hi).1
  exact rowe_one (h i u _ hi (List.getElem?_eq_getElem (by omega)))
set_option maxHeartbeats 20000000 in
set_option maxRecDepth 100000 in
theorem replayAgain_walk (w : World) (V : CV) (C : Circ) (a : Int) (U : TV) (t : Tr) (h : C.In w V) (ok : C.Ok) (rm : C.Room ∧ C.Reach) (_ha : I64 a) (ht : t.In w U) (_hr : t.Reach) :
    Calls Try.prog 5 #[V.val C.max, .int .i64 a, U.val t.loop] w fun e w' => e = .returned (.bool true) ∧ Below w.heap.size w w' := by
  obtain ⟨O, hO⟩ := ord_ex h ok
  have HWK := Lib.hid (fun (wx : World) => worksR_any wx)
  have HJU := Lib.hid (fun (wx : World) (hb : Below w.heap.size w wx) (U2 : TV) (t2 : Tr) (h2 : t2.In wx U2) => Justice_any wx V C U2 t2 a O (h.below hb) ok rm.1 h2 hO)
  have HTI := Lib.hid ht
  obtain ⟨iA, ic, ei, -⟩ : ∃ A c, U.i = .slice A t.init.length c ∧ True := by obtain ⟨A, c, e, _⟩ := ht.i; exact ⟨A, c, e, trivial⟩
  obtain ⟨rA, rc, er, hrm, -⟩ := ht.r.at_
  have hrc : ∀ A k c, U.r = .slice A k c → k ≤ c := fun A k c e => by
    obtain ⟨vs, ⟨A', c', e', hle, _⟩, _⟩ := ht.r
    rw [e] at e'
    injection e' with _ e2 e3
    omega
  have hnr := hrc _ _ _ er
  obtain ⟨Vi, Vl, Vo, Vb, Vc, Vj, Vf, Va, Vs, Vt⟩ := V
  obtain ⟨Ui, Ur⟩ := U
  simp only at ei er
  subst ei er
  obtain ⟨m, hmm⟩ : ∃ m, C.max = m := ⟨_, rfl⟩
  obtain ⟨n, hn⟩ : ∃ n, t.rows.length = n := ⟨_, rfl⟩
  obtain ⟨il, hil⟩ : ∃ n, t.init.length = n := ⟨_, rfl⟩
  obtain ⟨lp, hlp⟩ : ∃ lp, t.loop = lp := ⟨_, rfl⟩
  rw [hmm] at HJU
  rw [hn, hil] at HTI
  rw [hn] at hrm hnr
  rw [hmm, hn, hil, hlp]
  have HMM := Lib.hid (And.intro hn hlp)
  unfold maxLen at hrm
  obtain ⟨b1, b2, hbb⟩ : ∃ x y, justR C O a t = (x, y) := ⟨_, _, rfl⟩
  have HBB := Lib.hid hbb
  have HJ0 : Hid (∀ wx, Below w.heap.size w wx → Calls Try.prog 19 #[(CV.mk Vi Vl Vo Vb Vc Vj Vf Va Vs Vt).val m, .int .i64 a, .agg #[.slice iA il ic, .slice rA n rc, .int .i64 lp]] wx fun e w' => e = .returned (.tuple #[.int .i64 b1, .int .i64 b2]) ∧ Below wx.heap.size wx w') := Lib.hid (fun wx hx => by
    have h9 := HJU.out wx hx _ t (HTI.out.below hx)
    rw [hbb, hlp] at h9
    exact h9)
  clear h ok rm ht hO hrc hmm hn hil hlp hbb
  obtain ⟨W0, hW⟩ : ∃ W, W = (w.alloc (.cells #[.int .i64 m, Vi, Vl, Vo, Vb, Vc, Vj, Vf, Va, Vs, Vt] 29)).alloc (.cells #[.slice iA il ic, .slice rA n rc, .int .i64 lp] 49) := ⟨_, rfl⟩
  have HALL : Hid (∀ wz, Below W0.heap.size W0 wz → Blk wz w.heap.size 29 #[.int .i64 m, Vi, Vl, Vo, Vb, Vc, Vj, Vf, Va, Vs, Vt] ∧ Blk wz (w.heap.size + 1) 49 #[.slice iA il ic, .slice rA n rc, .int .i64 lp] ∧ Below w.heap.size w wz) := Lib.hid (fun wz hb => by
    rw [hW] at hb
    have h1 : Below w.heap.size w wz := (((Below.refl w.heap.size w).alloc (Nat.le_refl _) _).alloc (by simp) _).trans (hb.mono (by simp; omega))
    have e1 := ((Blk.new w 29 #[.int .i64 m, Vi, Vl, Vo, Vb, Vc, Vj, Vf, Va, Vs, Vt]).alloc (.cells #[.slice iA il ic, .slice rA n rc, .int .i64 lp] 49)).below hb (by simp; omega)
    have e2 := (Blk.new (w.alloc (.cells #[.int .i64 m, Vi, Vl, Vo, Vb, Vc, Vj, Vf, Va, Vs, Vt] 29)) 49 #[.slice iA il ic, .slice rA n rc, .int .i64 lp]).below hb (by simp)
    rw [show (w.alloc (.cells #[.int .i64 m, Vi, Vl, Vo, Vb, Vc, Vj, Vf, Va, Vs, Vt] 29)).heap.size = w.heap.size + 1 by simp] at e2
    exact ⟨e1, e2, h1⟩)
  have HX : Hid (Below W0.heap.size W0 W0) := Lib.hid (Below.refl _ _)
  obtain ⟨c0, c1, c2, c3, c4, c5, c6, c7, c8, c9, c10⟩ := rbox_of (HALL.out _ HX.out).1
  obtain ⟨d0, d1, d2⟩ := trio_of (HALL.out _ HX.out).2.1
  have HWW := Lib.hid hW
  clear hW
  go_enter Try.func5, Try.ntmps5
  go_upto_region 1 with (fail)
  rw [← HWW.out]
  go_upto_region 4 with (first
    | (go_at_call 16; refine (HWK.out _).mono ?_; rintro e w1 ⟨rfl, hb⟩; have HXN := Lib.hid (bt HX.out (Nat.le_refl _) hb); clear HX hb c0 c1 c2 c3 c4 c5 c6 c7 c8 c9 c10 d0 d1 d2; have HX := HXN; clear HXN; obtain ⟨c0, c1, c2, c3, c4, c5, c6, c7, c8, c9, c10⟩ := rbox_of (HALL.out _ HX.out).1; obtain ⟨d0, d1, d2⟩ := trio_of (HALL.out _ HX.out).2.1)
    | (go_at_call 19; refine (HJ0.out _ (HALL.out _ HX.out).2.2).mono ?_; rintro e w2 ⟨rfl, hb⟩; have HXN := Lib.hid (bt HX.out (Nat.le_refl _) hb); clear HX hb c0 c1 c2 c3 c4 c5 c6 c7 c8 c9 c10 d0 d1 d2; have HX := HXN; clear HXN; obtain ⟨c0, c1, c2, c3, c4, c5, c6, c7, c8, c9, c10⟩ := rbox_of (HALL.out _ HX.out).1; obtain ⟨d0, d1, d2⟩ := trio_of (HALL.out _ HX.out).2.1))
  by_cases h0 : b2 = 0
  · subst h0
    by_cases h40 : 200 < n
    · have h41 : (200 : Int) < (n : Int) := by omega
      go_wp2
      go_ret
      exact ⟨rfl, (HALL.out _ HX.out).2.2⟩
    · have h41 : ¬ (200 : Int) < (n : Int) := by omega
      have hag := just_again (C := C) (O := O) (j := a) (t := t) (by rw [HBB.out]) (by rw [HMM.out.1]; omega)
      rw [HMM.out.1, HMM.out.2, HBB.out] at hag
      obtain ⟨⟨hl0, hl1⟩, hb1, hj1, hj2⟩ := hag
      obtain ⟨l, rfl⟩ : ∃ l : Nat, lp = (l : Int) := ⟨lp.toNat, by omega⟩
      have hll : l < n := by omega
      injection hb1 with hb1 _
      subst hb1
      rw [show ((l : Int)).toNat = l by omega] at hj1 hj2
      have HJJ := Lib.hid (And.intro hj1 hj2)
      have hq1 : ((l : Int) != (l : Int)) = false := by simp
      have hq2 : ¬ (l : Int) < 0 := by omega
      have hq3 : (l : Int) ≤ (n : Int) := by omega
      have hq4 : ¬ rc = l := by omega
      obtain ⟨vs, hv1, hv2, hv3⟩ := HTI.out.r
      have hvl : vs.length = n := hv2.trans HMM.out.1
      obtain ⟨rb, ro, e⟩ : ∃ rb ro, rA = some ⟨rb, ro, none⟩ := by
        obtain ⟨A', c', e', _, _, hrr⟩ := hv1
        obtain ⟨b, off, e, _⟩ := hrr 0 _ (List.getElem?_eq_getElem (by omega))
        injection e' with e1 _ _
        exact ⟨b, off, e1.trans e⟩
      subst e
      have HVS := Lib.hid (And.intro hv1 (And.intro hv2 hv3))
      have HON := Lib.hid (listsO_one hv2 hv3)
      have HVL := Lib.hid hvl
      obtain ⟨iB, hiB, hBz0, hBz1, hBz2⟩ := info_of2 infoBR
      have HIB := Lib.hid (And.intro hiB (And.intro hBz0 (And.intro hBz1 hBz2)))
      clear hl0 hl1 hj1 hj2 hv1 hv2 hv3 hvl hiB hBz0 hBz1 hBz2
      go_upto_region 9 with (fail)
      have HSS : Hid (∀ wz, Below w2.heap.size w2 wz → wz.cell? ⟨w.heap.size + 1, 1, none⟩ = some (.slice (some ⟨rb, ro, none⟩) n rc) ∧ RowE 1 encV wz (.slice (some ⟨rb, ro, none⟩) n rc) vs) := Lib.hid (fun wz hz => by
        have h9 := HALL.out _ (bt HX.out (Nat.le_refl _) hz)
        obtain ⟨_, q1, _⟩ := trio_of h9.2.1
        exact ⟨q1, HVS.out.1.below h9.2.2⟩)
      go_cut [10] (fun rv wx => ∃ A c, rv = .slice A (n + (n - l)) c ∧ Below w2.heap.size w2 wx ∧ wx.ownsRow w2.heap.size 46 1 (.slice A (n + (n - l)) c) (n + (n - l)) (vs ++ vs.drop l))
      case first =>
        refine wp_region_T (by kernel_rfl) (fun wz => wz.cell? ⟨w.heap.size + 1, 1, none⟩ = some (.slice (some ⟨rb, ro, none⟩) n rc) ∧ RowE 1 encV wz (.slice (some ⟨rb, ro, none⟩) n rc) vs) 10 ?_
        have HD : Hid (Below w2.heap.size w2 w2.drew) := Lib.hid (Below.refl _ _).drew
        have hHeld := HSS.out _ HD.out
        clear c0 c1 c2 c3 c4 c5 c6 c7 c8 c9 c10 d0 d1 d2
        refine wpAnyT_take (i := 1) (oi := { dst := some 50, op := Op.fieldAddr 49 (Operand.tmp 5) 1, type := 0, pos := "theorems.go:90", after := #[], guard := none }) (v := ?v1ra9q1) rfl (by kernel_rfl) (fun _ _ _ h => h) (by rfl) hHeld ?h1ra9q1 ?_
        case h1ra9q1 => (intro w' hSw; (try dsimp only at hSw); go_simp; try with_reducible rfl)
        (try simp only [Act.put, List.setIfInBounds_toArray, List.set_cons_zero, List.set_cons_succ])
        refine wpAnyT_take (i := 2) (oi := { dst := some 51, op := Op.load 47 (Operand.tmp 50), type := 47, pos := "theorems.go:90", after := #[{ on := 1, ground := Ground.data }], guard := none }) (v := ?v2ra9q1) rfl (by kernel_rfl) (fun _ _ _ h => h) (by rfl) hHeld ?h2ra9q1 ?_
        case h2ra9q1 => (intro w' hSw; (try dsimp only at hSw); go_simp; try with_reducible rfl)
        (try simp only [Act.put, List.setIfInBounds_toArray, List.set_cons_zero, List.set_cons_succ])
        refine wpAnyT_take (i := 4) (oi := { dst := some 53, op := Op.fieldAddr 49 (Operand.tmp 5) 1, type := 0, pos := "theorems.go:90", after := #[], guard := none }) (v := ?v4ra9q2) rfl (by kernel_rfl) (fun _ _ _ h => h) (by rfl) hHeld ?h4ra9q2 ?_
        case h4ra9q2 => (intro w' hSw; (try dsimp only at hSw); go_simp; try with_reducible rfl)
        (try simp only [Act.put, List.setIfInBounds_toArray, List.set_cons_zero, List.set_cons_succ])
        refine wpAnyT_take (i := 5) (oi := { dst := some 54, op := Op.load 47 (Operand.tmp 53), type := 47, pos := "theorems.go:90", after := #[{ on := 4, ground := Ground.data }], guard := none }) (v := ?v5ra9q2) rfl (by kernel_rfl) (fun _ _ _ h => h) (by rfl) hHeld ?h5ra9q2 ?_
        case h5ra9q2 => (intro w' hSw; (try dsimp only at hSw); go_simp; try with_reducible rfl)
        (try simp only [Act.put, List.setIfInBounds_toArray, List.set_cons_zero, List.set_cons_succ])
        refine wpAnyT_take (i := 6) (oi := { dst := some 55, op := Op.move (Operand.tmp 7), type := 3, pos := "theorems.go:90", after := #[], guard := none }) (v := ?v6ra9q2) rfl (by kernel_rfl) (fun _ _ _ h => h) (by rfl) hHeld ?h6ra9q2 ?_
        case h6ra9q2 => (intro w' hSw; (try dsimp only at hSw); go_simp; try with_reducible rfl)
        (try simp only [Act.put, List.setIfInBounds_toArray, List.set_cons_zero, List.set_cons_succ])
        refine wpAnyT_take (i := 7) (oi := { dst := some 56, op := Op.slice 47 (Operand.tmp 54) (some (Operand.tmp 55)) none none, type := 47, pos := "theorems.go:90", after := #[{ on := 5, ground := Ground.data }, { on := 6, ground := Ground.data }], guard := none }) (v := ?v7ra9q2) rfl (by kernel_rfl) (fun _ _ _ h => h) (by rfl) hHeld ?h7ra9q2 ?_
        case h7ra9q2 => (intro w' hSw; (try dsimp only at hSw); go_simp; try with_reducible rfl)
        (try simp only [Act.put, List.setIfInBounds_toArray, List.set_cons_zero, List.set_cons_succ])
        clear hHeld
        refine wpAnyT_one (i := 0) rfl (by kernel_rfl) (fun K hK => ?_)
        go_simp
        have HD1 : Hid (Below w2.heap.size w2 (w2.drew.alloc (.cells #[] 46))) := Lib.hid (HD.out.alloc (Nat.le_refl _) _)
        have HO1 : Hid ((w2.drew.alloc (.cells #[] 46)).ownsRow w2.heap.size 46 1 (.slice (some ⟨w2.heap.size, 0, none⟩) 0 0) 0 []) := Lib.hid (World.ownsRow_made w2.drew #[] 0 (Nat.le_refl _) (by simp [maxLen]) rfl)
        refine hK.out _ _ (fun _ => HSS.out _ HD1.out) ?_
        clear hK K
        (try simp only [Act.put, List.setIfInBounds_toArray, List.set_cons_zero, List.set_cons_succ])
        refine wpAnyT_one (i := 3) rfl (by kernel_rfl) (fun K hK => ?_)
        refine step_append_any _ rfl (.tmp 49) (.tmp 51) _ rfl w2.heap.size 46 iB _ 1 24 Try.underlying47 HIB.out.1 HIB.out.2.1 HIB.out.2.2.1 HIB.out.2.2.2 rfl (by omega) (.slice (some ⟨w2.heap.size, 0, none⟩) 0 0) 0 ([]) (by simp [Act.eval]) (HO1.out) _ (some ⟨rb, ro, none⟩) n rc (vs) (by simp [Act.eval]) (rowR _ _ _ _ _ (HSS.out _ HD1.out).2) (HON.out) (by simp only [maxLen]; omega) (by omega) (by first | (simp; done) | (simp; omega) | omega) ?_
        intro v5 w5 hown5 hg5 _
        have HD5 := Lib.hid (HD1.out.grown hg5 (by simp) (fun k hk => (HO1.out.lt k hk).1))
        obtain ⟨A5, k5, rfl⟩ := own_slice1 hown5
        rw [Nat.zero_add, List.nil_append] at hown5
        have HO5 := Lib.hid hown5
        clear hown5 hg5
        rw [Nat.zero_add]
        refine hK.out _ _ (fun _ => HSS.out _ HD5.out) ?_
        clear hK K
        (try simp only [Act.put, List.setIfInBounds_toArray])
        refine wpAnyT_one (i := 8) rfl (by kernel_rfl) (fun K hK => ?_)
        refine step_append_any _ rfl (.tmp 52) (.tmp 56) _ rfl w2.heap.size 46 iB _ 1 24 Try.underlying47 HIB.out.1 HIB.out.2.1 HIB.out.2.2.1 HIB.out.2.2.2 rfl (by omega) (.slice A5 n k5) n (vs) (by simp [Act.eval]) (HO5.out) _ (some ⟨rb, ro + l, none⟩) (n - l) (rc - l) (vs.drop l) (by simp [Act.eval]) (by have h9 := rowR _ _ _ _ _ (rowE_dropR (HSS.out _ HD5.out).2 (Nat.le_of_lt hll)); rwa [Nat.mul_one] at h9) (fun u hu => HON.out u (List.mem_of_mem_drop hu)) (by simp only [maxLen]; omega) (by omega) HD5.out.size ?_
        intro v6 w6 hown6 hg6 _
        have HD6 := Lib.hid (HD5.out.grown hg6 HD5.out.size (fun k hk => (HO5.out.lt k hk).1))
        obtain ⟨A6, k6, rfl⟩ := own_slice1 hown6
        have HO6 := Lib.hid hown6
        clear hown6 hg6
        refine hK.out _ _ (fun _ => HSS.out _ HD6.out) ?_
        clear hK K
        (try simp only [Act.put])
        have hHeld := HSS.out _ HD6.out
        refine wpAnyT_take (i := 9) (oi := { dst := some 10, op := Op.assign (Operand.tmp 57), type := 47, pos := "theorems.go:90", after := #[{ on := 8, ground := Ground.data }, { on := 8, ground := Ground.chain }, { on := 0, ground := Ground.phase }, { on := 1, ground := Ground.phase }, { on := 2, ground := Ground.phase }, { on := 3, ground := Ground.phase }, { on := 4, ground := Ground.phase }, { on := 5, ground := Ground.phase }, { on := 6, ground := Ground.phase }, { on := 7, ground := Ground.phase }, { on := 8, ground := Ground.phase }], guard := none }) (v := ?v9ra9q3) rfl (by kernel_rfl) (fun _ _ _ h => h) (by rfl) hHeld ?h9ra9q3 ?_
        case h9ra9q3 => (intro w' hSw; (try dsimp only at hSw); go_simp; try with_reducible rfl)
        (try simp only [Act.put])
        clear hHeld
        refine wpAnyT_done (by kernel_rfl) ?_
        go_wp2_with fail
        go_meet
        exact ⟨A6, k6, rfl, HD6.out, HO6.out⟩
      case rest =>
        obtain ⟨A6, k6, rfl, hb6, hown6⟩ := hcut
        obtain ⟨N, hN⟩ : ∃ N, n + (n - l) = N := ⟨_, rfl⟩
        have HXC := Lib.hid (bt HX.out (Nat.le_refl _) hb6)
        have HCW := Lib.hid (HALL.out _ HXC.out).2.2
        have hli : ListsO wc (.slice A6 N k6) (t.rows ++ t.rows.drop l) := by
          rw [hN] at hown6
          refine ⟨vs ++ vs.drop l, ?_, by simp [HVS.out.2.1], fun i u zs hu hz => ?_⟩
          · have hlen : (vs ++ vs.drop l).length = N := by rw [List.length_append, List.length_drop, HVL.out]; exact hN
            have h9 : wc.ownsRow w2.heap.size 46 1 (.slice A6 N k6) (vs ++ vs.drop l).length ((vs ++ vs.drop l).flatMap encV) := by rw [flat_vals, hlen]; exact hown6
            exact own_rowe lenV h9
          · by_cases hi : i < vs.length
            · rw [List.getElem?_append_left hi] at hu
              rw [List.getElem?_append_left (by rw [← HVS.out.2.1]; exact hi)] at hz
              exact (HVS.out.2.2 i u zs hu hz).below HCW.out
            · rw [List.getElem?_append_right (by omega), List.getElem?_drop] at hu
              rw [List.getElem?_append_right (by rw [← HVS.out.2.1]; omega), List.getElem?_drop, ← HVS.out.2.1] at hz
              exact (HVS.out.2.2 _ u zs hu hz).below HCW.out
        have HLI := Lib.hid hli
        rw [hN]
        have HJA : Hid (∀ wx, Below wc.heap.size wc wx → Calls Try.prog 19 #[(CV.mk Vi Vl Vo Vb Vc Vj Vf Va Vs Vt).val m, .int .i64 a, .agg #[.slice iA il ic, .slice A6 N k6, .int .i64 (l : Int)]] wx fun e w' => e = .returned (.tuple #[.int .i64 (l : Int), .int .i64 0]) ∧ Below wx.heap.size wx w') := Lib.hid (fun wx hx => by
          have hw9 := bt HCW.out (Nat.le_refl _) hx
          have h9 := HJU.out wx hw9 ⟨.slice iA il ic, .slice A6 N k6⟩ (moreT t l (l : Int)) ⟨HTI.out.i.below hw9, HLI.out.below hx⟩
          rw [HJJ.out.1] at h9
          exact h9)
        have HJB : Hid (∀ wx, Below wc.heap.size wc wx → Calls Try.prog 19 #[(CV.mk Vi Vl Vo Vb Vc Vj Vf Va Vs Vt).val m, .int .i64 a, .agg #[.slice iA il ic, .slice A6 N k6, .int .i64 (n : Int)]] wx fun e w' => e = .returned (.tuple #[.int .i64 (n : Int), .int .i64 0]) ∧ Below wx.heap.size wx w') := Lib.hid (fun wx hx => by
          have hw9 := bt HCW.out (Nat.le_refl _) hx
          have h9 := HJU.out wx hw9 ⟨.slice iA il ic, .slice A6 N k6⟩ (moreT t l (n : Int)) ⟨HTI.out.i.below hw9, HLI.out.below hx⟩
          rw [HJJ.out.2] at h9
          exact h9)
        have hz0 : ((0 : Int) == (0 : Int)) = true := by decide
        have hz1 : ((l : Int) == (l : Int)) = true := by simp
        have hz2 : ((n : Int) == (n : Int)) = true := by simp
        clear hli hb6 hown6 hN c0 c1 c2 c3 c4 c5 c6 c7 c8 c9 c10 d0 d1 d2
        obtain ⟨c0, c1, c2, c3, c4, c5, c6, c7, c8, c9, c10⟩ := rbox_of (HALL.out _ HXC.out).1
        obtain ⟨d0, d1, d2⟩ := trio_of (HALL.out _ HXC.out).2.1
        go_upto_region 11 with (go_at_call 19; refine (HJA.out _ (Below.refl _ _)).mono ?_; rintro e w8 ⟨rfl, hb⟩; have H8 := Lib.hid hb; clear hb c0 c1 c2 c3 c4 c5 c6 c7 c8 c9 c10 d0 d1 d2; have HX8 := Lib.hid (bt HXC.out (Nat.le_refl _) H8.out); obtain ⟨c0, c1, c2, c3, c4, c5, c6, c7, c8, c9, c10⟩ := rbox_of (HALL.out _ HX8.out).1; obtain ⟨d0, d1, d2⟩ := trio_of (HALL.out _ HX8.out).2.1)
        go_wp2_with (go_at_call 19; refine (HJB.out _ H8.out).mono ?_; rintro e w9 ⟨rfl, hb⟩; have HX9 := Lib.hid (bt HX8.out (Nat.le_refl _) hb); clear hb)
        go_ret
        exact ⟨rfl, (HALL.out _ HX9.out).2.2⟩
  · have hq : (b2 != 0) = true := by simpa using h0
    have hq2 : (b2 == 0) = false := by simpa using h0
    have hb1 : 0 ≤ b1 := by
      have h9 := just_at (C := C) (O := O) (j := a) (t := t) (by rw [HBB.out]; exact h0)
      rwa [HBB.out] at h9
    go_wp2
    go_ret
    exact ⟨rfl, (HALL.out _ HX.out).2.2⟩
end Go.Proofs.Ytjbglgmbnjdhcaa
