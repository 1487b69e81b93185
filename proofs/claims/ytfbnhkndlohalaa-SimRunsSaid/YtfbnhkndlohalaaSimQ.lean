/- Sim: moments in memory, and the statements' own word that two lists of them are the same. -/
import Derived.Test.YtfbnhkndlohalaaSimN
import Derived.Test.YtfbnhkndlohalaaSame3
namespace Go.Proofs.Ytfbnhkndlohalaa
open Go.RowKit

/-- How one moment of a list reads. -/
structure MomAt (w : World) (b k : Nat) (x : MV) (m : Mom) : Prop where
  c0 : w.cell? ⟨b, k, none⟩ = some x.s
  c1 : w.cell? ⟨b, k + 1, none⟩ = some (.bool x.h)
  c2 : w.cell? ⟨b, k + 2, none⟩ = some x.b
  c3 : w.cell? ⟨b, k + 3, none⟩ = some x.f
  lt : b < w.heap.size
  s : RowE 1 encO w x.s m.st
  h : x.h = m.holds
  b : RowE 1 encI w x.b m.bads
  f : RowE 2 encQ w x.f m.fair
theorem MomAt.below {w w' : World} {b k : Nat} {x : MV} {m : Mom} (h : MomAt w b k x m) (hb : Below w.heap.size w w') : MomAt w' b k x m :=
  ⟨(hb.cell (p := ⟨b, k, none⟩) h.lt).trans h.c0, (hb.cell (p := ⟨b, k + 1, none⟩) h.lt).trans h.c1, (hb.cell (p := ⟨b, k + 2, none⟩) h.lt).trans h.c2, (hb.cell (p := ⟨b, k + 3, none⟩) h.lt).trans h.c3, Nat.lt_of_lt_of_le h.lt hb.size, h.s.below hb, h.h, h.b.below hb, h.f.below hb⟩
/-- A list of moments. -/
def MomRow (w : World) (v : Value) (ms : List Mom) : Prop := ∃ A c, v = .slice A ms.length c ∧ ms.length ≤ c ∧ c ≤ maxLen ∧ ∀ (i : Nat) (m : Mom), ms[i]? = some m → ∃ b off x, A = some ⟨b, off, none⟩ ∧ MomAt w b (off + i * 4) x m
theorem MomRow.below {w w' : World} {v : Value} {ms : List Mom} (h : MomRow w v ms) (hb : Below w.heap.size w w') : MomRow w' v ms := by
  obtain ⟨A, c, e, h1, h2, h3⟩ := h
  refine ⟨A, c, e, h1, h2, fun i m hm => ?_⟩
  obtain ⟨b, off, x, e2, h4⟩ := h3 i m hm
  exact ⟨b, off, x, e2, h4.below hb⟩
theorem MomRow.nil (w : World) (A : Option Addr) : MomRow w (.slice A 0 0) [] := ⟨A, 0, rfl, Nat.le_refl _, by simp [maxLen], fun i m hm => by simp at hm⟩
/-- The moments that a run made. -/
theorem momRow_of {w : World} {B gm n : Nat} {xs : List MV} {ms : List Mom} (h : MomB w gm n xs) (hm : Moms w B xs ms) (hn : ms.length = n) (hn2 : n ≤ maxLen) : MomRow w (.slice (some ⟨gm, 0, none⟩) n n) ms := by
  refine ⟨_, n, by rw [hn], by omega, hn2, fun i m hi => ?_⟩
  have hil : i < xs.length := by rw [hm.len]; exact (List.getElem?_eq_some_iff.1 hi).1
  have hx := List.getElem?_eq_getElem hil
  generalize xs[i] = x at hx
  obtain ⟨a, b, c, d⟩ := h.cells hx
  have hr := hm.at_ i x m hx hi
  refine ⟨gm, 0, x, rfl, ?_⟩
  rw [Nat.zero_add]
  exact ⟨a, b, c, d, h.lt, own_rowe lenO (by rw [flat_bools]; exact hr.s), hr.h, own_rowe lenI (by rw [flat_ints]; exact hr.b), own_rowe lenQ hr.f⟩

set_option maxHeartbeats 800000 in
theorem SameO_any (w : World) (v u : Value) (xs ys : List Bool) (h : RowE 1 encO w v xs) (h' : RowE 1 encO w u ys) : Calls Try.prog 11 #[v, u] w fun e w' => e = .returned (.bool (decide (xs = ys))) ∧ Below w.heap.size w w' := by
  have hlen := h.len
  have hlen' := h'.len
  unfold maxLen at hlen hlen'
  obtain ⟨A, c, rfl, hc, hm, hp⟩ := h
  obtain ⟨A', c', rfl, hc', hm', hq⟩ := h'
  generalize hr : decide (xs = ys) = r
  have HR := Lib.hid hr
  clear hr hc hm hc' hm'
  have HP := Lib.hid hp
  have HQ := Lib.hid hq
  clear hp hq
  by_cases hne : xs.length = ys.length
  · rw [← hne]
    have HM := Lib.hid hne
    clear hne hlen'
    generalize hn : xs.length = n at *
    have HN := Lib.hid hn
    clear hn
    go_enter Try.func11, Try.ntmps11
    go_wp2
    go_loopw [5] (fun i wr => ∃ k : Nat, k ≤ n ∧ i = .int .i64 k ∧ xs.take k = ys.take k ∧ Below w.heap.size w wr) (fun i _ => n - (intOf i).toNat)
    case atStart => exact ⟨0, Nat.zero_le _, rfl, by simp, Below.refl _ _⟩
    case round =>
      obtain ⟨k, hk, rfl, hall, hbw⟩ := hrel
      have HA := Lib.hid hall
      clear hall
      by_cases hlt : k < n
      · have hx := List.getElem?_eq_getElem (l := xs) (i := k) (by rw [HN.out]; exact hlt)
        have hy := List.getElem?_eq_getElem (l := ys) (i := k) (by rw [← HM.out]; exact hlt)
        generalize xs[k]'(by rw [HN.out]; exact hlt) = x at hx
        generalize ys[k]'(by rw [← HM.out]; exact hlt) = y at hy
        obtain ⟨b, off, rfl, hb, hcell⟩ := HP.out k x hx
        obtain ⟨b', off', rfl, hb', hcell'⟩ := HQ.out k y hy
        have HX := Lib.hid hx
        have HY := Lib.hid hy
        clear hx hy
        have h0 := (hbw.cell (p := ⟨b, off + (k * 1 + 0), none⟩) hb).trans (hcell 0 _ rfl)
        have g0 := (hbw.cell (p := ⟨b', off' + (k * 1 + 0), none⟩) hb').trans (hcell' 0 _ rfl)
        simp only [Nat.add_zero, Nat.mul_one] at h0 g0
        clear hcell hcell'
        cases he : x == y
        · have hr : r = false := by
            rw [← HR.out, decide_eq_false_iff_not]
            intro e
            subst e
            have e2 := HX.out.symm.trans HY.out
            rw [Option.some.injEq] at e2
            rw [beq_iff_eq.2 e2] at he
            cases he
          subst hr
          clear HX HY
          have hl1 : (x == y) = false := he
          have hl2 : (x != y) = true := by unfold bne; rw [hl1]; rfl
          clear he
          all_goals
            go_wp2
            go_quiet (fail)
            go_wp2
            go_ret
            exact ⟨rfl, below_drewN hbw _⟩
        · have HE := Lib.hid he
          have hl1 : (x == y) = true := he
          have hl2 : (x != y) = false := by unfold bne; rw [hl1]; rfl
          clear he
          go_wp2
          go_quiet (fail)
          go_wp2
          go_roundw
          case rel => exact ⟨k + 1, by omega, by go_num, take_eq_succ' HX.out (by rw [beq_iff_eq.1 HE.out]; exact HY.out) HA.out, below_drewN hbw _⟩
          case measure => simp [intOf]; omega
      · have : k = n := by omega
        subst this
        go_wp2
        go_ret
        refine ⟨ret_bool ?_, hbw⟩
        rw [← HR.out, eq_comm, decide_eq_true_iff]
        exact take_all HN.out (HM.out.symm) HA.out
  · have hr : r = false := by
      rw [← HR.out, decide_eq_false_iff_not]
      intro e; exact hne (by rw [e])
    subst hr
    have hd : ((xs.length : Int) == (ys.length : Int)) = false := by simpa using fun e => hne (by exact_mod_cast e)
    have hd2 : ((xs.length : Int) != (ys.length : Int)) = true := by simpa using fun e => hne (by exact_mod_cast e)
    have HR := Lib.hid hne
    clear hne
    go_enter Try.func11, Try.ntmps11
    go_wp2
    go_ret
    exact ⟨rfl, Below.refl _ _⟩

theorem sl_form {E : Type} {k : Nat} {enc : E → List Value} {w : World} {v : Value} {zs : List E} (h : RowE k enc w v zs) : ∃ A n c, v = .slice A n c := by
  obtain ⟨A, c, e, _⟩ := h
  exact ⟨A, _, c, e⟩
theorem sl_formL {w : World} {v : Value} {zss : List (List Int)} (h : Lists w v zss) : ∃ A n c, v = .slice A n c := by
  obtain ⟨A, c, e, _⟩ := h.at_
  exact ⟨A, _, c, e⟩
set_option maxHeartbeats 20000000 in
set_option maxRecDepth 100000 in
theorem same_any (w : World) (v u : Value) (ms : List Mom) (h : MomRow w v ms) (h' : MomRow w u ms) : Calls Try.prog 8 #[v, u] w fun e w' => e = .returned (.bool true) ∧ Below w.heap.size w w' := by
  obtain ⟨A, c, rfl, hc, hm, hp⟩ := h
  obtain ⟨A', c', rfl, hc', hm', hq⟩ := h'
  have HP := Lib.hid hp
  have HQ := Lib.hid hq
  obtain ⟨n, hn⟩ : ∃ n, ms.length = n := ⟨_, rfl⟩
  have HN := Lib.hid hn
  have HSO := Lib.hid (fun (wx : World) (v u : Value) (zs : List Bool) (hx : RowE 1 encO wx v zs) (hy : RowE 1 encO wx u zs) => (show Calls Try.prog 11 #[v, u] wx fun e w' => e = .returned (.bool true) ∧ Below wx.heap.size wx w' from by have := SameO_any wx v u zs zs hx hy; rwa [decide_eq_true (rfl : zs = zs)] at this))
  have HSI := Lib.hid (fun (wx : World) (v u : Value) (zs : List Int) (hx : RowE 1 encI wx v zs) (hy : RowE 1 encI wx u zs) => (show Calls Try.prog 12 #[v, u] wx fun e w' => e = .returned (.bool true) ∧ Below wx.heap.size wx w' from by have := SameInts_any wx v u zs zs hx hy; rwa [decide_eq_true (rfl : zs = zs)] at this))
  rw [hn]
  rw [hn] at hc hc'
  unfold maxLen at hm hm'
  clear hp hq hn
  go_enter Try.func8, Try.ntmps8
  go_wp2
  go_loopg [5] n (fun j iv wr => ∃ k : Nat, k ≤ n ∧ iv = .int .i64 k ∧ j = n - k ∧ Below w.heap.size w wr)
  case atStart => exact ⟨0, Nat.zero_le _, rfl, rfl, Below.refl _ _⟩
  case round =>
    obtain ⟨k, hk, rfl, hgk, hbw⟩ := hrel
    subst hgk
    have HBW := Lib.hid hbw
    clear hbw
    by_cases hlt : k < n
    · obtain ⟨m, hmk⟩ : ∃ m, ms[k]? = some m := ⟨_, List.getElem?_eq_getElem (by rw [HN.out]; exact hlt)⟩
      obtain ⟨b, off, x, e, hx⟩ := HP.out k m hmk
      subst e
      obtain ⟨b', off', y, e, hy⟩ := HQ.out k m hmk
      subst e
      clear hmk
      have HX := Lib.hid (hx.below HBW.out)
      have HY := Lib.hid (hy.below HBW.out)
      have hxy : x.h = y.h := hx.h.trans hy.h.symm
      obtain ⟨fA, fc, hfe, hfl⟩ := len_form hx.f
      obtain ⟨gA, gc, hge, _⟩ := len_form hy.f
      obtain ⟨sA, sn, sc, hse⟩ := slO_form hx.s
      obtain ⟨tA, tn, tc, hte⟩ := slO_form hy.s
      obtain ⟨bA, bn, bc, hbe⟩ := sl_form hx.b
      obtain ⟨dA, dn, dc, hde⟩ := sl_form hy.b
      obtain ⟨xs, xh, xb, xf⟩ := x
      obtain ⟨ys, yh, yb, yf⟩ := y
      simp only at hfe hge hxy hse hte hbe hde
      subst hfe hge hxy hse hte hbe hde
      clear hx hy
      have hk0 : (0 : Int) ≤ (k : Int) := by omega
      have hk1 : (k : Int) < (n : Int) := by omega
      have hyy : (xh != xh) = false := by simp
      unfold maxLen at hfl
      have hll : (((m.fair.length : Nat) : Int) != ((m.fair.length : Nat) : Int)) = false := by simp
      have HCL : Hid (∀ wz, Below wr.heap.size wr wz → (wz.cell? ⟨b, off + k * 4, none⟩ = some (.slice sA sn sc) ∧ wz.cell? ⟨b, off + k * 4 + 1, none⟩ = some (.bool xh) ∧ wz.cell? ⟨b, off + k * 4 + 2, none⟩ = some (.slice bA bn bc) ∧ wz.cell? ⟨b, off + k * 4 + 3, none⟩ = some (.slice fA m.fair.length fc)) ∧ wz.cell? ⟨b', off' + k * 4, none⟩ = some (.slice tA tn tc) ∧ wz.cell? ⟨b', off' + k * 4 + 1, none⟩ = some (.bool xh) ∧ wz.cell? ⟨b', off' + k * 4 + 2, none⟩ = some (.slice dA dn dc) ∧ wz.cell? ⟨b', off' + k * 4 + 3, none⟩ = some (.slice gA m.fair.length gc)) := Lib.hid (fun wz hb =>
        ⟨⟨(HX.out.below hb).c0, (HX.out.below hb).c1, (HX.out.below hb).c2, (HX.out.below hb).c3⟩, (HY.out.below hb).c0, (HY.out.below hb).c1, (HY.out.below hb).c2, (HY.out.below hb).c3⟩)
      go_upto_region 6 with (fail)
      refine wp_region_quiet (C := fun wz => Below wr.heap.size wr wz) (by kernel_rfl) (by kernel_rfl) (Below.refl wr.heap.size wr).drew ?_
      simp only
      repeat
        first
          | go_big_quiet_skip
          | (refine wpQuiet_step (fun K hK => ?_)
             rw [if_pos (by rfl)]
             unfold Oper.quiet
             apply Exists.intro
             refine And.intro (fun wx hWx => ?_) (hK _ ?_)
             · obtain ⟨⟨c0, c1, c2, c3⟩, d0, d1, d2, d3⟩ := HCL.out wx hWx
               first
                 | (go_simp; exact rfl)
                 | (go_simp; go_at_call 11; refine (HSO.out _ _ _ m.st (HX.out.below hWx).s (HY.out.below hWx).s).mono ?_; rintro e w' ⟨rfl, hb'⟩; exact ⟨rfl, bt hWx (Nat.le_refl _) hb'⟩)
                 | (go_simp; go_at_call 12; refine (HSI.out _ _ _ m.bads (HX.out.below hWx).b (HY.out.below hWx).b).mono ?_; rintro e w' ⟨rfl, hb'⟩; exact ⟨rfl, bt hWx (Nat.le_refl _) hb'⟩)
             clear hK K
             try simp only [Act.put, List.setIfInBounds_toArray, List.set_cons_zero, List.set_cons_succ])
      refine wpQuiet_nil ?_
      intro w5 hw5
      have HW5 := Lib.hid hw5
      have hc3 := (HCL.out w5 hw5).1.2.2.2
      have hd3 := (HCL.out w5 hw5).2.2.2.2
      clear hw5
      obtain ⟨nf, hnf⟩ : ∃ nf, m.fair.length = nf := ⟨_, rfl⟩
      rw [hnf] at hc3 hd3 hfl hll HCL
      rw [hnf]
      have HNF := Lib.hid hnf
      clear hnf
      go_wp2
      go_loopg [6] nf (fun j iv wz => ∃ q : Nat, q ≤ nf ∧ iv = .int .i64 q ∧ j = nf - q ∧ Below wr.heap.size wr wz)
      case atStart => exact ⟨0, Nat.zero_le _, rfl, rfl, HW5.out⟩
      case round =>
        obtain ⟨q, hq, hgk, rfl, hbz⟩ := hrel
        have HBZ := Lib.hid hbz
        obtain ⟨⟨_, _, _, e3⟩, _, _, _, e7⟩ := HCL.out _ hbz
        clear hbz hc3 hd3
        by_cases hlq : q < nf
        · obtain ⟨p, hp⟩ : ∃ p, m.fair[q]? = some p := ⟨_, List.getElem?_eq_getElem (by rw [HNF.out]; exact hlq)⟩
          obtain ⟨_, _, ee, _, _, hfr⟩ := (HX.out.below HBZ.out).f
          obtain ⟨_, _, ef, _, _, hgr⟩ := (HY.out.below HBZ.out).f
          injection ee with ee1 _ ee3
          injection ef with ef1 _ ef3
          subst ee1 ef1 ee3 ef3
          obtain ⟨fb, fo, e, hfb, hfc⟩ := hfr q p hp
          subst e
          obtain ⟨gb, go, e, hgb, hgc⟩ := hgr q p hp
          subst e
          have r0 := hfc 0 _ rfl
          have r1 := hfc 1 _ rfl
          have s0 := hgc 0 _ rfl
          have s1 := hgc 1 _ rfl
          simp only [Nat.add_zero, ← Nat.add_assoc] at r0 r1 s0 s1
          have hq0 : (0 : Int) ≤ (q : Int) := by omega
          have hq1 : (q : Int) < (nf : Int) := by omega
          obtain ⟨p0, p1⟩ := p
          have hpp : (p0 == p0) = true := by simp
          have hpp1 : (p1 == p1) = true := by simp
          clear hfc hgc hp hfr hgr
          go_wp2
          go_quiet (fail)
          go_wp2
          go_roundg (nf - (q + 1))
          case measure => omega
          case rel => first | exact ⟨q + 1, by omega, by go_num, rfl, below_drewN HBZ.out _⟩ | ((repeat apply Exists.intro); exact ⟨⟨q + 1, by omega, by go_num, rfl, below_drewN HBZ.out _⟩, rfl⟩)
        · have hqe : q = nf := by omega
          subst hqe
          go_wp2
          go_roundg (n - (k + 1))
          case measure => omega
          case rel => exact ⟨k + 1, by omega, by go_num, rfl, bt HBW.out (Nat.le_refl _) HBZ.out⟩
    · have hke : k = n := by omega
      subst hke
      go_wp2
      go_ret
      exact ⟨rfl, HBW.out⟩
end Go.Proofs.Ytfbnhkndlohalaa
