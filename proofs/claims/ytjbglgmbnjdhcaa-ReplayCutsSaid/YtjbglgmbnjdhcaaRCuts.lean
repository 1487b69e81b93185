/- Replay: ReplayCuts: the walk of the statement. -/
import Derived.Test.YtjbglgmbnjdhcaaRplW
import Derived.Test.YtjbglgmbnjdhcaaArgS
namespace Go.Proofs.Ytjbglgmbnjdhcaa
open Go.RowKit

theorem rowE_take {E : Type} {s : Nat} {enc : E → List Value} {w : World} {A : Option Addr} {n c : Nat} {zs : List E} (h : RowE s enc w (.slice A n c) zs) {k : Nat} (hk : k ≤ n) : RowE s enc w (.slice A k c) (zs.take k) := by
  obtain ⟨A', c', e, h1, h2, h3⟩ := h
  injection e with e1 e2 e3
  subst e1 e2 e3
  have hl : (zs.take k).length = k := by rw [List.length_take]; omega
  refine ⟨A, c, by rw [hl], by rw [hl]; omega, h2, fun i z hz => h3 i z ?_⟩
  rw [List.getElem?_take] at hz
  split at hz
  · exact hz
  · cases hz
theorem listsO_take {w : World} {A : Option Addr} {n c : Nat} {rows : List (List Bool)} (h : ListsO w (.slice A n c) rows) {k : Nat} (hk : k ≤ n) : ListsO w (.slice A k c) (rows.take k) := by
  obtain ⟨vs, h1, h2, h3⟩ := h
  refine ⟨vs.take k, rowE_take h1 hk, by simp [h2], fun i u zs hu hz => ?_⟩
  rw [List.getElem?_take] at hu hz
  split at hu
  · rw [if_pos (by assumption)] at hz
    exact h3 i u zs hu hz
  · cases hu
theorem any_step {Ts : List (List Bool)} {k : Nat} {T : List Bool} (h : Ts[k]? = some T) (l : Int) : (Ts.take (k + 1)).any (fun T => litV T l) = ((Ts.take k).any (fun T => litV T l) || litV T l) := by
  rw [List.take_add_one, h]
  simp
theorem mem_step {L : List Int} {k : Nat} {x : Int} (h : L[k]? = some x) (q : Int) : decide (q ∈ L.take (k + 1)) = (decide (q ∈ L.take k) || (x == q)) := by
  rw [List.take_add_one, h]
  by_cases h1 : q ∈ L.take k
  · simp [h1]
  · by_cases h2 : x = q
    · subst h2; simp
    · have h3 : ¬ q = x := fun e => h2 e.symm
      simp [h1, h2, h3]
set_option maxHeartbeats 20000000 in
set_option maxRecDepth 100000 in
theorem replayCuts_walk (w : World) (V : CV) (C : Circ) (U : TV) (t : Tr) (h : C.In w V) (ok : C.Ok) (_rm : C.Room ∧ C.Reach) (ht : t.In w U) (_hr : t.Reach) :
    Calls Try.prog 4 #[V.val C.max, U.val t.loop] w fun e w' => e = .returned (.bool true) ∧ Below w.heap.size w w' := by
  obtain ⟨O, hO⟩ := ord_ex h ok
  have HWK := Lib.hid (fun (wx : World) => worksR_any wx)
  have HRE := Lib.hid (fun (wx : World) (hb : Below w.heap.size w wx) => Reached_any wx V C U t O (h.below hb) ok (ht.below hb) hO)
  have HBAD := Lib.hid (fun (wx : World) (hb : Below w.heap.size w wx) (a : Int) (U2 : TV) (t2 : Tr) (h2 : t2.In wx U2) => Bad_any wx V C U2 t2 a O (h.below hb) ok h2 hO)
  have hti := ht.i
  have htr := ht.r
  obtain ⟨bA, bc, eb, _⟩ : ∃ A c, V.b = .slice A C.bads.length c ∧ True := by obtain ⟨A, c, e, _⟩ := h.b; exact ⟨A, c, e, trivial⟩
  obtain ⟨iA, ic, ei, -⟩ : ∃ A c, U.i = .slice A t.init.length c ∧ True := by obtain ⟨A, c, e, _⟩ := ht.i; exact ⟨A, c, e, trivial⟩
  obtain ⟨rA, rc, er, hrm, -⟩ := ht.r.at_
  have hrc : ∀ A k c, U.r = .slice A k c → k ≤ c := fun A k c e => by
    obtain ⟨vs, ⟨A', c', e', hle, _⟩, _⟩ := ht.r
    rw [e] at e'
    injection e' with _ e2 e3
    omega
  have hnr := hrc _ _ _ er
  obtain ⟨Vi, Vl, Vo, Vb, Vc, Vj, Vf, Va, Vs, Vt⟩ := V
  obtain ⟨Ui, Ur⟩ := U
  simp only at eb ei er hti htr
  subst eb ei er
  obtain ⟨m, hmm⟩ : ∃ m, C.max = m := ⟨_, rfl⟩
  obtain ⟨n, hn⟩ : ∃ n, t.rows.length = n := ⟨_, rfl⟩
  obtain ⟨il, hil⟩ : ∃ n, t.init.length = n := ⟨_, rfl⟩
  obtain ⟨lp, hlp⟩ : ∃ lp, t.loop = lp := ⟨_, rfl⟩
  obtain ⟨bn, hbn⟩ : ∃ k, C.bads.length = k := ⟨_, rfl⟩
  rw [hmm, hbn, hn, hil, hlp] at HRE
  rw [hmm, hbn] at HBAD
  rw [hil] at hti
  rw [hn] at htr hrm hnr
  rw [hmm, hn, hil, hlp, hbn]
  have HMM := Lib.hid (And.intro hn hbn)
  have HTI := Lib.hid (And.intro hti htr)
  have HNR := Lib.hid hnr
  obtain ⟨re, hre⟩ : ∃ x, reachE C O t = x := ⟨_, rfl⟩
  obtain ⟨rl, hrl⟩ : ∃ x, reachL C O t = x := ⟨_, rfl⟩
  have HRR := Lib.hid (And.intro hre hrl)
  rw [hre, hrl] at HRE
  unfold maxLen at hrm
  clear h ok ht hO hrc hmm hn hil hlp hbn hre hrl hti htr
  obtain ⟨W0, hW⟩ : ∃ W, W = (w.alloc (.cells #[.int .i64 m, Vi, Vl, Vo, .slice bA bn bc, Vc, Vj, Vf, Va, Vs, Vt] 29)).alloc (.cells #[.slice iA il ic, .slice rA n rc, .int .i64 lp] 49) := ⟨_, rfl⟩
  have HALL : Hid (∀ wz, Below W0.heap.size W0 wz → Blk wz w.heap.size 29 #[.int .i64 m, Vi, Vl, Vo, .slice bA bn bc, Vc, Vj, Vf, Va, Vs, Vt] ∧ Blk wz (w.heap.size + 1) 49 #[.slice iA il ic, .slice rA n rc, .int .i64 lp] ∧ Below w.heap.size w wz) := Lib.hid (fun wz hb => by
    rw [hW] at hb
    have h1 : Below w.heap.size w wz := (((Below.refl w.heap.size w).alloc (Nat.le_refl _) _).alloc (by simp) _).trans (hb.mono (by simp; omega))
    have e1 := ((Blk.new w 29 #[.int .i64 m, Vi, Vl, Vo, .slice bA bn bc, Vc, Vj, Vf, Va, Vs, Vt]).alloc (.cells #[.slice iA il ic, .slice rA n rc, .int .i64 lp] 49)).below hb (by simp; omega)
    have e2 := (Blk.new (w.alloc (.cells #[.int .i64 m, Vi, Vl, Vo, .slice bA bn bc, Vc, Vj, Vf, Va, Vs, Vt] 29)) 49 #[.slice iA il ic, .slice rA n rc, .int .i64 lp]).below hb (by simp)
    rw [show (w.alloc (.cells #[.int .i64 m, Vi, Vl, Vo, .slice bA bn bc, Vc, Vj, Vf, Va, Vs, Vt] 29)).heap.size = w.heap.size + 1 by simp] at e2
    exact ⟨e1, e2, h1⟩)
  have HX : Hid (Below W0.heap.size W0 W0) := Lib.hid (Below.refl _ _)
  obtain ⟨c0, c1, c2, c3, c4, c5, c6, c7, c8, c9, c10⟩ := rbox_of (HALL.out _ HX.out).1
  obtain ⟨d0, d1, d2⟩ := trio_of (HALL.out _ HX.out).2.1
  have HWW := Lib.hid hW
  clear hW
  go_enter Try.func4, Try.ntmps4
  go_upto_region 1 with (fail)
  rw [← HWW.out]
  go_upto_region 4 with (first
    | (go_at_call 16; refine (HWK.out _).mono ?_; rintro e w1 ⟨rfl, hb⟩; have HXN := Lib.hid (bt HX.out (Nat.le_refl _) hb); clear HX hb c0 c1 c2 c3 c4 c5 c6 c7 c8 c9 c10 d0 d1 d2; have HX := HXN; clear HXN; obtain ⟨c0, c1, c2, c3, c4, c5, c6, c7, c8, c9, c10⟩ := rbox_of (HALL.out _ HX.out).1; obtain ⟨d0, d1, d2⟩ := trio_of (HALL.out _ HX.out).2.1)
    | (go_at_call 17; refine (HRE.out _ (HALL.out _ HX.out).2.2).mono ?_; rintro e w2 ⟨v, rfl, hown, hb⟩; have HXN := Lib.hid (bt HX.out (Nat.le_refl _) hb); have HOWN := Lib.hid hown; obtain ⟨vA, vc, rfl⟩ := own_slice1 hown; clear HX hb hown c0 c1 c2 c3 c4 c5 c6 c7 c8 c9 c10 d0 d1 d2; have HX := HXN; clear HXN; obtain ⟨c0, c1, c2, c3, c4, c5, c6, c7, c8, c9, c10⟩ := rbox_of (HALL.out _ HX.out).1; obtain ⟨d0, d1, d2⟩ := trio_of (HALL.out _ HX.out).2.1))
  by_cases h0 : re = 0
  · subst h0
    by_cases h40 : 40 < n
    · have h41 : (40 : Int) < (n : Int) := by omega
      go_wp2
      go_ret
      exact ⟨rfl, (HALL.out _ HX.out).2.2⟩
    · have h41 : ¬ (40 : Int) < (n : Int) := by omega
      obtain ⟨hck, hwk⟩ := reach_ok HRR.out.1
      have hnb := (right_of hck).nb
      rw [HMM.out.2] at hnb
      have HCK := Lib.hid (And.intro hck hwk)
      obtain ⟨Ts, hTs⟩ : ∃ Ts, valsT C O t = Ts := ⟨_, rfl⟩
      have HTL : Hid (Ts.length = n) := Lib.hid (by rw [← hTs]; exact (valsG_len C O _ _).trans HMM.out.1)
      have HTS := Lib.hid hTs
      have HXC := HX
      obtain ⟨rn, hrn⟩ : ∃ k, rl.length = k := ⟨_, rfl⟩
      have HRN := Lib.hid hrn
      have hor := HOWN.out
      rw [← flat_ints] at hor
      obtain ⟨_, _, ee, _, _, hrow⟩ := own_rowe lenI hor
      injection ee with ee1 _ ee3
      subst ee1 ee3
      have HROW := Lib.hid hrow
      have hrn16 : rn ≤ 16384 := by
        have h9 : rl.length ≤ C.bads.length := by
          rw [← HRR.out.2]
          unfold reachL
          split
          · exact Nat.le_trans (truesG_len _ _) (Nat.le_of_eq (cameS_len _ _))
          · simp
        rw [hrn, HMM.out.2] at h9
        omega
      rw [hrn]
      clear hor hrow hrn HOWN
      clear hck hwk hTs
      go_wp2
      go_loopg [41] bn (fun z iv wx => ∃ q : Nat, q ≤ bn ∧ z = bn - q ∧ iv = .int .i64 q ∧ Below w2.heap.size w2 wx)
      case atStart => exact ⟨0, Nat.zero_le _, rfl, rfl, Below.refl _ _⟩
      case round =>
        obtain ⟨q, hq, hgk, rfl, hbw⟩ := hrel
        subst hgk
        have HBW := Lib.hid hbw
        clear hbw c0 c1 c2 c3 c4 c5 c6 c7 c8 c9 c10 d0 d1 d2
        by_cases hlt : q < bn
        · obtain ⟨l, hl⟩ : ∃ l, C.bads[q]? = some l := ⟨_, List.getElem?_eq_getElem (by rw [HMM.out.2]; exact hlt)⟩
          have HL := Lib.hid hl
          have HTOLD := Lib.hid (reach_told HRR.out.1 hl)
          rw [HTS.out, HRR.out.2] at HTOLD
          have hq1 : (q : Int) < (bn : Int) := by omega
          clear hl
          have HX2 := Lib.hid (bt HX.out (Nat.le_refl _) HBW.out)
          obtain ⟨c0, c1, c2, c3, c4, c5, c6, c7, c8, c9, c10⟩ := rbox_of (HALL.out _ HX2.out).1
          obtain ⟨d0, d1, d2⟩ := trio_of (HALL.out _ HX2.out).2.1
          obtain ⟨wo, hwo⟩ : ∃ x, x = wr := ⟨_, rfl⟩
          subst hwo
          have HX3 := HX2
          have hn41 : n ≤ 40 := by omega
          go_wp2
          go_loopg [8, 9] n (fun z tv kv wx => ∃ k : Nat, k ≤ n ∧ z = n - k ∧ kv = .int .i64 ((k : Int) + 1) ∧ tv = .bool ((Ts.take k).any fun T => litV T l) ∧ Below w2.heap.size w2 wx)
          case atStart => exact ⟨0, Nat.zero_le _, rfl, by simp, by simp, HBW.out⟩
          case round =>
            obtain ⟨k, hk, hgk, rfl, rfl, hbw⟩ := hrel
            subst hgk
            have HB2 := Lib.hid hbw
            clear hbw c0 c1 c2 c3 c4 c5 c6 c7 c8 c9 c10 d0 d1 d2 HX3
            have HX3 := Lib.hid (bt HX.out (Nat.le_refl _) HB2.out)
            obtain ⟨c0, c1, c2, c3, c4, c5, c6, c7, c8, c9, c10⟩ := rbox_of (HALL.out _ HX3.out).1
            obtain ⟨d0, d1, d2⟩ := trio_of (HALL.out _ HX3.out).2.1
            by_cases hkn : k < n
            · obtain ⟨T, hT⟩ : ∃ T, Ts[k]? = some T := ⟨_, List.getElem?_eq_getElem (by rw [HTL.out]; exact hkn)⟩
              have HST := Lib.hid (any_step hT l)
              have hcb := cut_bad HCK.out.1 HCK.out.2 (k := k + 1) (by omega) (by rw [HMM.out.1]; omega) HL.out (T := T) (by rw [HTS.out]; exact hT)
              obtain ⟨b1, b2, hbb⟩ : ∃ x y, badR C O q (cutT t (k + 1)) = (x, y) := ⟨_, _, rfl⟩
              rw [hbb] at hcb
              simp only at hcb
              have HCB := Lib.hid hcb
              have HBC : Hid (∀ wx, Below w2.heap.size w2 wx → Calls Try.prog 18 #[(CV.mk Vi Vl Vo (.slice bA bn bc) Vc Vj Vf Va Vs Vt).val m, .int .i64 (q : Int), .agg #[.slice iA il ic, .slice rA (k + 1) rc, .int .i64 (-1)]] wx fun e w' => e = .returned (.tuple #[.int .i64 b1, .int .i64 b2]) ∧ Below wx.heap.size wx w') := Lib.hid (fun wx hx => by
                have hw9 := (HALL.out _ (bt HX.out (Nat.le_refl _) hx)).2.2
                have h9 := HBAD.out wx hw9 q ⟨.slice iA il ic, .slice rA (k + 1) rc⟩ (cutT t (k + 1)) ⟨HTI.out.1.below hw9, listsO_take (HTI.out.2.below hw9) (by omega)⟩
                rw [hbb] at h9
                exact h9)
              have hk0 : (0 : Int) ≤ (k : Int) + 1 := by omega
              have hk1 : (k : Int) + 1 ≤ (n : Int) := by omega
              have hk2 : (k : Int) + 1 ≤ (rc : Int) := by have := HNR.out; omega
              clear hT hcb hbb
              go_upto_region 13 with (fail)
              have HSS : Hid (∀ wz, Below w2.heap.size w2 wz → wz.cell? ⟨w.heap.size, 0, none⟩ = some (.int .i64 m) ∧ wz.cell? ⟨w.heap.size, 1, none⟩ = some Vi ∧ wz.cell? ⟨w.heap.size, 2, none⟩ = some Vl ∧ wz.cell? ⟨w.heap.size, 3, none⟩ = some Vo ∧ wz.cell? ⟨w.heap.size, 4, none⟩ = some (.slice bA bn bc) ∧ wz.cell? ⟨w.heap.size, 5, none⟩ = some Vc ∧ wz.cell? ⟨w.heap.size, 6, none⟩ = some Vj ∧ wz.cell? ⟨w.heap.size, 7, none⟩ = some Vf ∧ wz.cell? ⟨w.heap.size, 8, none⟩ = some Va ∧ wz.cell? ⟨w.heap.size, 9, none⟩ = some Vs ∧ wz.cell? ⟨w.heap.size, 10, none⟩ = some Vt ∧ wz.cell? ⟨w.heap.size + 1, 0, none⟩ = some (.slice iA il ic) ∧ wz.cell? ⟨w.heap.size + 1, 1, none⟩ = some (.slice rA n rc) ∧ wz.cell? ⟨w.heap.size + 1, 2, none⟩ = some (.int .i64 lp)) := Lib.hid (fun wz hz => by
                have h9 := HALL.out _ (bt HX.out (Nat.le_refl _) hz)
                obtain ⟨a0, a1, a2, a3, a4, a5, a6, a7, a8, a9, a10⟩ := rbox_of h9.1
                obtain ⟨b0, b1, b2⟩ := trio_of h9.2.1
                exact ⟨a0, a1, a2, a3, a4, a5, a6, a7, a8, a9, a10, b0, b1, b2⟩)
              refine wp_region_T (by kernel_rfl) (fun wz => wz.cell? ⟨w.heap.size, 0, none⟩ = some (.int .i64 m) ∧ wz.cell? ⟨w.heap.size, 1, none⟩ = some Vi ∧ wz.cell? ⟨w.heap.size, 2, none⟩ = some Vl ∧ wz.cell? ⟨w.heap.size, 3, none⟩ = some Vo ∧ wz.cell? ⟨w.heap.size, 4, none⟩ = some (.slice bA bn bc) ∧ wz.cell? ⟨w.heap.size, 5, none⟩ = some Vc ∧ wz.cell? ⟨w.heap.size, 6, none⟩ = some Vj ∧ wz.cell? ⟨w.heap.size, 7, none⟩ = some Vf ∧ wz.cell? ⟨w.heap.size, 8, none⟩ = some Va ∧ wz.cell? ⟨w.heap.size, 9, none⟩ = some Vs ∧ wz.cell? ⟨w.heap.size, 10, none⟩ = some Vt ∧ wz.cell? ⟨w.heap.size + 1, 0, none⟩ = some (.slice iA il ic) ∧ wz.cell? ⟨w.heap.size + 1, 1, none⟩ = some (.slice rA n rc) ∧ wz.cell? ⟨w.heap.size + 1, 2, none⟩ = some (.int .i64 lp)) 15 ?_
              have HD : Hid (Below w2.heap.size w2 wr.drew) := Lib.hid HB2.out.drew
              have hHeld := HSS.out _ HD.out
              clear c0 c1 c2 c3 c4 c5 c6 c7 c8 c9 c10 d0 d1 d2
              refine wpAnyT_take (i := 0) (oi := { dst := some 52, op := Op.load 29 (Operand.tmp 2), type := 29, pos := "theorems.go:63", after := #[], guard := none }) (v := ?v0rc13q1) rfl (by kernel_rfl) (fun _ _ _ h => h) (by rfl) hHeld ?h0rc13q1 ?_
              case h0rc13q1 => (intro w' hSw; (try dsimp only at hSw); go_simp; try with_reducible rfl)
              (try simp only [Act.put, List.setIfInBounds_toArray, List.set_cons_zero, List.set_cons_succ])
              refine wpAnyT_take (i := 1) (oi := { dst := some 53, op := Op.move (Operand.tmp 7), type := 3, pos := "theorems.go:63", after := #[], guard := none }) (v := ?v1rc13q1) rfl (by kernel_rfl) (fun _ _ _ h => h) (by rfl) hHeld ?h1rc13q1 ?_
              case h1rc13q1 => (intro w' hSw; (try dsimp only at hSw); go_simp; try with_reducible rfl)
              (try simp only [Act.put, List.setIfInBounds_toArray, List.set_cons_zero, List.set_cons_succ])
              refine wpAnyT_take (i := 2) (oi := { dst := some 54, op := Op.fieldAddr 49 (Operand.tmp 3) 0, type := 0, pos := "theorems.go:63", after := #[], guard := none }) (v := ?v2rc13q1) rfl (by kernel_rfl) (fun _ _ _ h => h) (by rfl) hHeld ?h2rc13q1 ?_
              case h2rc13q1 => (intro w' hSw; (try dsimp only at hSw); go_simp; try with_reducible rfl)
              (try simp only [Act.put, List.setIfInBounds_toArray, List.set_cons_zero, List.set_cons_succ])
              refine wpAnyT_take (i := 3) (oi := { dst := some 55, op := Op.load 46 (Operand.tmp 54), type := 46, pos := "theorems.go:63", after := #[{ on := 2, ground := Ground.data }], guard := none }) (v := ?v3rc13q1) rfl (by kernel_rfl) (fun _ _ _ h => h) (by rfl) hHeld ?h3rc13q1 ?_
              case h3rc13q1 => (intro w' hSw; (try dsimp only at hSw); go_simp; try with_reducible rfl)
              (try simp only [Act.put, List.setIfInBounds_toArray, List.set_cons_zero, List.set_cons_succ])
              refine wpAnyT_take (i := 4) (oi := { dst := some 56, op := Op.fieldAddr 49 (Operand.tmp 3) 1, type := 0, pos := "theorems.go:63", after := #[], guard := none }) (v := ?v4rc13q1) rfl (by kernel_rfl) (fun _ _ _ h => h) (by rfl) hHeld ?h4rc13q1 ?_
              case h4rc13q1 => (intro w' hSw; (try dsimp only at hSw); go_simp; try with_reducible rfl)
              (try simp only [Act.put, List.setIfInBounds_toArray, List.set_cons_zero, List.set_cons_succ])
              refine wpAnyT_take (i := 5) (oi := { dst := some 57, op := Op.load 47 (Operand.tmp 56), type := 47, pos := "theorems.go:63", after := #[{ on := 4, ground := Ground.data }], guard := none }) (v := ?v5rc13q1) rfl (by kernel_rfl) (fun _ _ _ h => h) (by rfl) hHeld ?h5rc13q1 ?_
              case h5rc13q1 => (intro w' hSw; (try dsimp only at hSw); go_simp; try with_reducible rfl)
              (try simp only [Act.put, List.setIfInBounds_toArray, List.set_cons_zero, List.set_cons_succ])
              refine wpAnyT_take (i := 6) (oi := { dst := some 58, op := Op.move (Operand.tmp 9), type := 3, pos := "theorems.go:63", after := #[], guard := none }) (v := ?v6rc13q1) rfl (by kernel_rfl) (fun _ _ _ h => h) (by rfl) hHeld ?h6rc13q1 ?_
              case h6rc13q1 => (intro w' hSw; (try dsimp only at hSw); go_simp; try with_reducible rfl)
              (try simp only [Act.put, List.setIfInBounds_toArray, List.set_cons_zero, List.set_cons_succ])
              refine wpAnyT_take (i := 7) (oi := { dst := some 59, op := Op.slice 47 (Operand.tmp 57) none (some (Operand.tmp 58)) none, type := 47, pos := "theorems.go:63", after := #[{ on := 5, ground := Ground.data }, { on := 6, ground := Ground.data }], guard := none }) (v := ?v7rc13q1) rfl (by kernel_rfl) (fun _ _ _ h => h) (by rfl) hHeld ?h7rc13q1 ?_
              case h7rc13q1 => (intro w' hSw; (try dsimp only at hSw); go_simp; try with_reducible rfl)
              (try simp only [Act.put, List.setIfInBounds_toArray, List.set_cons_zero, List.set_cons_succ])
              refine wpAnyT_take (i := 8) (oi := { dst := some 60, op := Op.build 49 #[(0, Operand.tmp 55), (1, Operand.tmp 59), (2, Operand.const (Value.int IntKind.i64 (-1)))], type := 49, pos := "theorems.go:63", after := #[{ on := 3, ground := Ground.data }, { on := 7, ground := Ground.data }], guard := none }) (v := ?v8rc13q1) rfl (by kernel_rfl) (fun _ _ _ h => h) (by rfl) hHeld ?h8rc13q1 ?_
              case h8rc13q1 => (intro w' hSw; (try dsimp only at hSw); go_simp; try with_reducible rfl)
              (try simp only [Act.put, List.setIfInBounds_toArray, List.set_cons_zero, List.set_cons_succ])
              clear hHeld
              refine wpAnyT_one (i := 9) rfl (by kernel_rfl) (fun K hK => ?_)
              go_simp
              go_at_call 18
              refine (HBC.out _ HD.out).mono ?_
              rintro e w5 ⟨rfl, hb⟩
              have HD5 := Lib.hid (bt HD.out (Nat.le_refl _) hb)
              clear hb
              refine hK.out _ _ (fun _ => HSS.out _ HD5.out) ?_
              clear hK K
              (try simp only [Act.put, List.setIfInBounds_toArray, List.set_cons_zero, List.set_cons_succ])
              have hHeld := HSS.out _ HD5.out
              refine wpAnyT_take (i := 10) (oi := { dst := some 51, op := Op.move (Operand.tmp 61), type := 52, pos := "theorems.go:63", after := #[{ on := 9, ground := Ground.data }], guard := none }) (v := ?v10rc13q2) rfl (by kernel_rfl) (fun _ _ _ h => h) (by rfl) hHeld ?h10rc13q2 ?_
              case h10rc13q2 => (intro w' hSw; (try dsimp only at hSw); go_simp; try with_reducible rfl)
              (try simp only [Act.put, List.setIfInBounds_toArray, List.set_cons_zero, List.set_cons_succ])
              refine wpAnyT_take (i := 11) (oi := { dst := some 62, op := Op.extract (Operand.tmp 51) 0, type := 3, pos := "theorems.go:63", after := #[{ on := 10, ground := Ground.data }], guard := none }) (v := ?v11rc13q2) rfl (by kernel_rfl) (fun _ _ _ h => h) (by rfl) hHeld ?h11rc13q2 ?_
              case h11rc13q2 => (intro w' hSw; (try dsimp only at hSw); go_simp; try with_reducible rfl)
              (try simp only [Act.put, List.setIfInBounds_toArray, List.set_cons_zero, List.set_cons_succ])
              refine wpAnyT_take (i := 12) (oi := { dst := some 63, op := Op.extract (Operand.tmp 51) 1, type := 35, pos := "theorems.go:63", after := #[{ on := 10, ground := Ground.data }, { on := 13, ground := Ground.gcOnly Departure.lateStores }], guard := none }) (v := ?v12rc13q2) rfl (by kernel_rfl) (fun _ _ _ h => h) (by rfl) hHeld ?h12rc13q2 ?_
              case h12rc13q2 => (intro w' hSw; (try dsimp only at hSw); go_simp; try with_reducible rfl)
              (try simp only [Act.put, List.setIfInBounds_toArray, List.set_cons_zero, List.set_cons_succ])
              refine wpAnyT_take (i := 13) (oi := { dst := some 10, op := Op.assign (Operand.tmp 62), type := 3, pos := "theorems.go:63", after := #[{ on := 11, ground := Ground.data }, { on := 9, ground := Ground.chain }, { on := 0, ground := Ground.phase }, { on := 1, ground := Ground.phase }, { on := 2, ground := Ground.phase }, { on := 3, ground := Ground.phase }, { on := 4, ground := Ground.phase }, { on := 5, ground := Ground.phase }, { on := 6, ground := Ground.phase }, { on := 7, ground := Ground.phase }, { on := 8, ground := Ground.phase }, { on := 9, ground := Ground.phase }, { on := 10, ground := Ground.phase }, { on := 11, ground := Ground.phase }, { on := 12, ground := Ground.textOnly Departure.lateStores }], guard := none }) (v := ?v13rc13q2) rfl (by kernel_rfl) (fun _ _ _ h => h) (by rfl) hHeld ?h13rc13q2 ?_
              case h13rc13q2 => (intro w' hSw; (try dsimp only at hSw); go_simp; try with_reducible rfl)
              (try simp only [Act.put, List.setIfInBounds_toArray, List.set_cons_zero, List.set_cons_succ])
              refine wpAnyT_take (i := 14) (oi := { dst := some 11, op := Op.assign (Operand.tmp 63), type := 35, pos := "theorems.go:63", after := #[{ on := 12, ground := Ground.data }, { on := 13, ground := Ground.chain }, { on := 0, ground := Ground.phase }, { on := 1, ground := Ground.phase }, { on := 2, ground := Ground.phase }, { on := 3, ground := Ground.phase }, { on := 4, ground := Ground.phase }, { on := 5, ground := Ground.phase }, { on := 6, ground := Ground.phase }, { on := 7, ground := Ground.phase }, { on := 8, ground := Ground.phase }, { on := 9, ground := Ground.phase }, { on := 10, ground := Ground.phase }, { on := 11, ground := Ground.phase }, { on := 12, ground := Ground.phase }, { on := 13, ground := Ground.phase }], guard := none }) (v := ?v14rc13q2) rfl (by kernel_rfl) (fun _ _ _ h => h) (by rfl) hHeld ?h14rc13q2 ?_
              case h14rc13q2 => (intro w' hSw; (try dsimp only at hSw); go_simp; try with_reducible rfl)
              (try simp only [Act.put, List.setIfInBounds_toArray, List.set_cons_zero, List.set_cons_succ])
              clear hHeld
              refine wpAnyT_done (by kernel_rfl) ?_
              obtain ⟨tk, htk⟩ : ∃ b, ((Ts.take k).any fun T => litV T l) = b := ⟨_, rfl⟩
              obtain ⟨lt, hltv⟩ : ∃ b, litV T l = b := ⟨_, rfl⟩
              rw [htk, hltv] at HST
              rw [hltv] at HCB
              rw [htk]
              have hb2 := HCB.out
              clear htk hltv HCB
              cases tk with
              | true =>
                go_wp2
                go_roundg (n - (k + 1))
                case measure => omega
                case rel => exact ⟨k + 1, by omega, rfl, by go_num, by rw [HST.out]; rfl, HD5.out⟩
              | false =>
                cases lt with
                | true =>
                  rw [if_pos rfl] at hb2
                  subst hb2
                  go_wp2
                  go_roundg (n - (k + 1))
                  case measure => omega
                  case rel => exact ⟨k + 1, by omega, rfl, by go_num, by rw [HST.out]; rfl, HD5.out⟩
                | false =>
                  rw [if_neg (by simp)] at hb2
                  subst hb2
                  go_wp2
                  go_roundg (n - (k + 1))
                  case measure => omega
                  case rel => exact ⟨k + 1, by omega, rfl, by go_num, by rw [HST.out]; rfl, HD5.out⟩
            · have hke : k = n := by omega
              subst hke
              have hk1 : ¬ (k : Int) + 1 ≤ (k : Int) := by omega
              have HTE : Hid (Ts.take k = Ts) := Lib.hid (List.take_of_length_le (by rw [HTL.out]; exact Nat.le_refl _))
              rw [HTE.out]
              obtain ⟨X, hXv⟩ : ∃ b, (Ts.any fun T => litV T l) = b := ⟨_, rfl⟩
              rw [hXv] at HTOLD ⊢
              have HIN2 := HB2
              obtain ⟨wi, hwi⟩ : ∃ x, x = wr := ⟨_, rfl⟩
              subst hwi
              clear hXv hkn hk
              go_wp2
              go_loopg [12, 71] rn (fun z tv iv wx => ∃ p : Nat, p ≤ rn ∧ z = rn - p ∧ iv = .int .i64 p ∧ tv = .bool (decide ((q : Int) ∈ rl.take p)) ∧ Below w2.heap.size w2 wx)
              case atStart => exact ⟨0, Nat.zero_le _, rfl, rfl, by simp, HIN2.out⟩
              case round =>
                obtain ⟨p, hp, hgk, rfl, rfl, hbw⟩ := hrel
                subst hgk
                have HB3 := Lib.hid hbw
                clear hbw
                by_cases hpn : p < rn
                · obtain ⟨x, hx⟩ : ∃ x, rl[p]? = some x := ⟨_, List.getElem?_eq_getElem (by rw [HRN.out]; exact hpn)⟩
                  obtain ⟨b, off, e, hb, hcell⟩ := HROW.out p x hx
                  subst e
                  have i0 := (HB3.out.cell (p := ⟨b, off + (p * 1 + 0), none⟩) hb).trans (hcell 0 _ rfl)
                  simp only [Nat.add_zero, Nat.mul_one] at i0
                  have HST := Lib.hid (mem_step hx q)
                  have hp0 : (0 : Int) ≤ (p : Int) := by omega
                  have hp1 : (p : Int) < (rn : Int) := by omega
                  obtain ⟨tk, htk⟩ : ∃ b, decide ((q : Int) ∈ rl.take p) = b := ⟨_, rfl⟩
                  obtain ⟨ex, hex⟩ : ∃ b, (x == (q : Int)) = b := ⟨_, rfl⟩
                  rw [htk, hex] at HST
                  rw [htk]
                  clear hcell hx htk
                  cases tk with
                  | true =>
                    go_wp2
                    go_roundg (rn - (p + 1))
                    case measure => omega
                    case rel => exact ⟨p + 1, by omega, rfl, by go_num, by rw [HST.out]; rfl, HB3.out⟩
                  | false =>
                    cases ex with
                    | true =>
                      go_wp2
                      go_roundg (rn - (p + 1))
                      case measure => omega
                      case rel => exact ⟨p + 1, by omega, rfl, by go_num, by rw [HST.out]; rfl, HB3.out⟩
                    | false =>
                      go_wp2
                      go_roundg (rn - (p + 1))
                      case measure => omega
                      case rel => exact ⟨p + 1, by omega, rfl, by go_num, by rw [HST.out]; rfl, HB3.out⟩
                · have hpe : rn = p := by omega
                  subst hpe
                  have hlast : decide ((q : Int) ∈ rl.take rn) = X := by
                    rw [List.take_of_length_le (by rw [HRN.out]; exact Nat.le_refl _)]
                    exact HTOLD.out
                  rw [hlast]
                  clear hlast
                  cases X with
                  | true =>
                    go_wp2
                    go_roundg (bn - (q + 1))
                    case measure => omega
                    case rel => exact ⟨q + 1, by omega, rfl, by go_num, HB3.out⟩
                  | false =>
                    go_wp2
                    go_roundg (bn - (q + 1))
                    case measure => omega
                    case rel => exact ⟨q + 1, by omega, rfl, by go_num, HB3.out⟩
        · have hqe : bn = q := by omega
          subst hqe
          go_wp2
          go_ret
          exact ⟨rfl, bt (HALL.out _ HX.out).2.2 (Nat.le_refl _) HBW.out⟩
  · have hq : (re != 0) = true := by simpa using h0
    have hq2 : (re == 0) = false := by simpa using h0
    have hr0 : rl = [] := by
      have h9 := HRR.out.2
      unfold reachL at h9
      rw [if_neg (by rw [HRR.out.1]; exact h0)] at h9
      exact h9.symm
    subst hr0
    go_wp2
    go_ret
    exact ⟨rfl, (HALL.out _ HX.out).2.2⟩
end Go.Proofs.Ytjbglgmbnjdhcaa
