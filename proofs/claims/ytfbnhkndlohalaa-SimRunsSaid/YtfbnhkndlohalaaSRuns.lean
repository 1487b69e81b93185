/- The walk of SimRuns. -/
import Derived.Test.YtfbnhkndlohalaaRunC
import Derived.Test.YtfbnhkndlohalaaSStarts
import Derived.Test.YtfbnhkndlohalaaWes
namespace Go.Proofs.Ytfbnhkndlohalaa
open Go.RowKit

set_option maxHeartbeats 8000000 in
set_option maxRecDepth 100000 in
theorem SameTrace_any (w : World) (U U2 : TV) (t : Tr) (h : t.In w U) (h2 : t.In w U2) :
    Calls Try.prog 14 #[U.val t.loop, U2.val t.loop] w fun e w' => e = .returned (.bool true) ∧ Below w.heap.size w w' := by
  have hall : ∀ wz, Below ((w.alloc (.cells (U.cells t.loop) 33)).alloc (.cells (U2.cells t.loop) 33)).heap.size ((w.alloc (.cells (U.cells t.loop) 33)).alloc (.cells (U2.cells t.loop) 33)) wz →
      Blk wz w.heap.size 33 (U.cells t.loop) ∧ Blk wz (w.heap.size + 1) 33 (U2.cells t.loop) ∧ Below w.heap.size w wz := fun wz hb => by
    have h1 : Below w.heap.size w wz := (((Below.refl w.heap.size w).alloc (Nat.le_refl _) _).alloc (by simp) _).trans (hb.mono (by simp; omega))
    have e1 := ((Blk.new w 33 (U.cells t.loop)).alloc (.cells (U2.cells t.loop) 33)).below hb (by simp; omega)
    have e2 := (Blk.new (w.alloc (.cells (U.cells t.loop) 33)) 33 (U2.cells t.loop)).below hb (by simp)
    rw [show (w.alloc (.cells (U.cells t.loop) 33)).heap.size = w.heap.size + 1 by simp] at e2
    exact ⟨e1, e2, h1⟩
  have hx0 : Below ((w.alloc (.cells (U.cells t.loop) 33)).alloc (.cells (U2.cells t.loop) 33)).heap.size ((w.alloc (.cells (U.cells t.loop) 33)).alloc (.cells (U2.cells t.loop) 33)) ((w.alloc (.cells (U.cells t.loop) 33)).alloc (.cells (U2.cells t.loop) 33)) := Below.refl _ _
  have HSA := Lib.hid (fun (wx : World) (v u : Value) (zs : List Bool) (hx : RowE 1 encO wx v zs) (hy : RowE 1 encO wx u zs) => (show Calls Try.prog 11 #[v, u] wx fun e w' => e = .returned (.bool true) ∧ Below wx.heap.size wx w' from by have := SameO_any wx v u zs zs hx hy; rwa [decide_eq_true (rfl : zs = zs)] at this))
  have HII := Lib.hid (And.intro h.i h2.i)
  obtain ⟨AR, cR, eR, _, hrr⟩ := h.r.at_
  obtain ⟨BR, dR, fR, hrm, hss⟩ := h2.r.at_
  obtain ⟨AI, ni, cI, eI⟩ := slO_form h.i
  obtain ⟨BI, nj, dI, fI⟩ := slO_form h2.i
  obtain ⟨Ui, Ur⟩ := U
  obtain ⟨Ti, Tr'⟩ := U2
  simp only at eR fR eI fI
  subst eR fR eI fI
  obtain ⟨n, hn⟩ : ∃ n, t.rows.length = n := ⟨_, rfl⟩
  obtain ⟨lp, hlp⟩ : ∃ lp, t.loop = lp := ⟨_, rfl⟩
  rw [hn, hlp] at hall hx0
  rw [hn] at HII hrm
  rw [hn, hlp]
  have HALL := Lib.hid hall
  have HX := Lib.hid hx0
  have HRR := Lib.hid hrr
  have HSS := Lib.hid hss
  have HN := Lib.hid hn
  unfold maxLen at hrm
  clear h h2 hall hx0 hrr hss hn hlp
  obtain ⟨x0, x1, x2⟩ := trio_of (HALL.out _ HX.out).1
  obtain ⟨y0, y1, y2⟩ := trio_of (HALL.out _ HX.out).2.1
  have q1 : (lp != lp) = false := by simp
  have q2 : ((n : Int) != (n : Int)) = false := by simp
  go_enter Try.func14, Try.ntmps14
  go_wp2_with (go_at_call 11; go_loud (refine (HSA.out _ _ _ t.init (HII.out.1.below (HALL.out _ HX.out).2.2) (HII.out.2.below (HALL.out _ HX.out).2.2)).mono ?_; rintro e w2 ⟨rfl, hb⟩; have HXN := Lib.hid (bt HX.out (Nat.le_refl _) hb); clear HX hb x0 x1 x2 y0 y1 y2; have HX := HXN; clear HXN; obtain ⟨x0, x1, x2⟩ := trio_of (HALL.out _ HX.out).1; obtain ⟨y0, y1, y2⟩ := trio_of (HALL.out _ HX.out).2.1))
  generalize ((w.alloc (.cells #[.slice AI ni cI, .slice AR n cR, .int .i64 lp] 33)).alloc (.cells #[.slice BI nj dI, .slice BR n dR, .int .i64 lp] 33)) = W0 at HALL HX
  go_loopg [5] n (fun j iv wr => ∃ k : Nat, k ≤ n ∧ iv = .int .i64 k ∧ j = n - k ∧ Below W0.heap.size W0 wr)
  case atStart => exact ⟨0, Nat.zero_le _, rfl, rfl, HX.out⟩
  case round =>
    obtain ⟨k, hk, rfl, hgk, hbw⟩ := hrel
    subst hgk
    clear HX x0 x1 x2 y0 y1 y2
    have HX := Lib.hid hbw
    clear hbw
    obtain ⟨x0, x1, x2⟩ := trio_of (HALL.out _ HX.out).1
    obtain ⟨y0, y1, y2⟩ := trio_of (HALL.out _ HX.out).2.1
    by_cases hlt : k < n
    · obtain ⟨row, hz⟩ : ∃ row, t.rows[k]? = some row := ⟨_, List.getElem?_eq_getElem (by rw [HN.out]; exact hlt)⟩
      obtain ⟨rb, ro, u, e, hrb, hu, hru⟩ := HRR.out k row hz
      subst e
      obtain ⟨sb, so, v, e, hsb, hv, hsv⟩ := HSS.out k row hz
      subst e
      obtain ⟨uA, un, uc, hue⟩ := slO_form hru
      subst hue
      obtain ⟨vA, vn, vc, hve⟩ := slO_form hsv
      subst hve
      have HRU := Lib.hid (And.intro hru hsv)
      have HCL : Hid (∀ wz, Below wr.heap.size wr wz → (wz.cell? ⟨w.heap.size, 1, none⟩ = some (.slice (some ⟨rb, ro, none⟩) n cR) ∧ wz.cell? ⟨w.heap.size + 1, 1, none⟩ = some (.slice (some ⟨sb, so, none⟩) n dR) ∧ wz.cell? ⟨rb, ro + k, none⟩ = some (.slice uA un uc) ∧ wz.cell? ⟨sb, so + k, none⟩ = some (.slice vA vn vc)) ∧ RowE 1 encO wz (.slice uA un uc) row ∧ RowE 1 encO wz (.slice vA vn vc) row) := Lib.hid (fun wz hb => by
        have h1 := bt HX.out (Nat.le_refl _) hb
        obtain ⟨_, e1, _⟩ := trio_of (HALL.out _ h1).1
        obtain ⟨_, f1, _⟩ := trio_of (HALL.out _ h1).2.1
        have h3 := (HALL.out _ h1).2.2
        exact ⟨⟨e1, f1, (h3.cell (p := ⟨rb, ro + k, none⟩) hrb).trans hu, (h3.cell (p := ⟨sb, so + k, none⟩) hsb).trans hv⟩, HRU.out.1.below h3, HRU.out.2.below h3⟩)
      have hk0 : (0 : Int) ≤ (k : Int) := by omega
      have hk1 : (k : Int) < (n : Int) := by omega
      clear hz hu hv hru hsv hrb hsb
      go_upto_region 6 with (fail)
      refine wp_region_quiet (C := fun wz => Below wr.heap.size wr wz) (by kernel_rfl) (by kernel_rfl) (Below.refl wr.heap.size wr).drew ?_
      simp only
      repeat
        first
          | go_big_quiet_skip
          | (refine wpQuiet_step (fun K hK => ?_)
             rw [if_pos (by rfl)]
             unfold Oper.quiet
             apply Exists.intro
             refine And.intro (fun wx hWx => ?_) (hK _ ?_)
             · obtain ⟨⟨e1, f1, g1, g2⟩, g3, g4⟩ := HCL.out wx hWx
               first
                 | (go_simp; exact rfl)
                 | (go_simp; go_at_call 11; refine (HSA.out _ _ _ row g3 g4).mono ?_; rintro e w' ⟨rfl, hb'⟩; exact ⟨rfl, bt hWx (Nat.le_refl _) hb'⟩)
             clear hK K
             try simp only [Act.put, List.setIfInBounds_toArray, List.set_cons_zero, List.set_cons_succ])
      refine wpQuiet_nil ?_
      intro w5 hw5
      have HW5 := Lib.hid hw5
      clear hw5
      go_wp2
      go_roundg (n - (k + 1))
      case measure => omega
      case rel => exact ⟨k + 1, by omega, by go_num, rfl, bt HX.out (Nat.le_refl _) HW5.out⟩
    · go_wp2
      go_ret
      exact ⟨rfl, (HALL.out _ HX.out).2.2⟩

/-- A lent circuit's lists, a trace's own lists stay when a box is written. -/
theorem LentC.box {w w' : World} {B b : Nat} {C : Circ} {us : List Value} {V : CV} {t : TypeId} {cs : Array Value} (h : LentC w B C us V) (hb : Blk w b t cs) (ht : t = 29 ∨ t = 33) (ho : ∀ k, k ≠ b → w'.heap[k]? = w.heap[k]?) : LentC w' B C us V := by
  have hb' : w.heap[b]? = some (.cells cs t (0, 0)) := hb
  have key : ∀ {g : Nat} {cur : Array Value} {e : TypeId}, e ≠ t → w.heap[g]? = some (.cells cur e (0, 0)) → w'.heap[g]? = some (.cells cur e (0, 0)) := fun {g cur e} he hg =>
    (ho g (fun e3 => by
      subst e3
      rw [hg] at hb'
      injection hb' with hb'
      injection hb' with _ e4 _
      exact he e4)).trans hg
  have own : ∀ {e : TypeId} {z n : Nat} {v : Value} {xs : List Value}, e ≠ t → w.ownsRow B e z v n xs → w'.ownsRow B e z v n xs := fun he h0 => own_of_block h0 fun g hg => ho g (fun e => own_blk_ne h0 hb he (by rw [hg, e]))
  have li : ∀ {v : Value} {zs : List Int}, Lent w B v zs → Lent w' B v zs := fun hl => by
    obtain ⟨g, cap, cur, rfl, hB, hg, h⟩ := hl
    exact ⟨g, cap, cur, rfl, hB, key (by rcases ht with rfl | rfl <;> decide) hg, h⟩
  have lt : ∀ {e : TypeId} {v : Value} {zs : List Tri}, e ≠ t → LentT w B e v zs → LentT w' B e v zs := fun he hl => by
    obtain ⟨g, cap, cur, rfl, hB, hg, h⟩ := hl
    exact ⟨g, cap, cur, rfl, hB, key he hg, h⟩
  have d : ∀ e : TypeId, e ≠ 29 → e ≠ 33 → e ≠ t := fun e h1 h2 => by rcases ht with rfl | rfl <;> assumption
  exact ⟨li h.i, lt (d _ (by decide) (by decide)) h.l, li h.o, li h.b, li h.c, ⟨h.j.ul, own (d _ (by decide) (by decide)) h.j.own, fun i x zs hx hz => own (d _ (by decide) (by decide)) (h.j.each i x zs hx hz)⟩, li h.f, lt (d _ (by decide) (by decide)) h.a, own (d _ (by decide) (by decide)) h.s, own (d _ (by decide) (by decide)) h.t⟩
theorem OwnT.box {w w' : World} {B b : Nat} {tr : Tr} {U : TV} {t : TypeId} {cs : Array Value} (h : OwnT w B tr U) (hb : Blk w b t cs) (ht : t = 29 ∨ t = 33) (ho : ∀ k, k ≠ b → w'.heap[k]? = w.heap[k]?) : OwnT w' B tr U := by
  have own : ∀ {e : TypeId} {z n : Nat} {v : Value} {xs : List Value}, e ≠ t → w.ownsRow B e z v n xs → w'.ownsRow B e z v n xs := fun he h0 => own_of_block h0 fun g hg => ho g (fun e => own_blk_ne h0 hb he (by rw [hg, e]))
  have d : ∀ e : TypeId, e ≠ 29 → e ≠ 33 → e ≠ t := fun e h1 h2 => by rcases ht with rfl | rfl <;> assumption
  obtain ⟨us, h1, h2, h3⟩ := h.ex
  exact ⟨own (d _ (by decide) (by decide)) h.i, us, h1, own (d _ (by decide) (by decide)) h2, fun i u zs hu hz => own (d _ (by decide) (by decide)) (h3 i u zs hu hz)⟩
theorem one_lent {w : World} {B : Nat} {V : CV} {us : List Value} {C : Circ} {m : Int} (h : LentC w B C us V) : (V.cells m).all (·.oneCell') = true := by
  obtain ⟨A0, n0, k0, hf0⟩ := sl_form h.in_.i
  obtain ⟨A1, n1, k1, hf1⟩ := sl_form h.in_.l
  obtain ⟨A2, n2, k2, hf2⟩ := sl_form h.in_.o
  obtain ⟨A3, n3, k3, hf3⟩ := sl_form h.in_.b
  obtain ⟨A4, n4, k4, hf4⟩ := sl_form h.in_.c
  obtain ⟨A5, n5, k5, hf5⟩ := sl_formL h.in_.j
  obtain ⟨A6, n6, k6, hf6⟩ := sl_form h.in_.f
  obtain ⟨A7, n7, k7, hf7⟩ := sl_form h.in_.a
  obtain ⟨A8, n8, k8, hf8⟩ := sl_form h.in_.s
  obtain ⟨A9, n9, k9, hf9⟩ := sl_form h.in_.t
  simp only [CV.cells]
  rw [hf0, hf1, hf2, hf3, hf4, hf5, hf6, hf7, hf8, hf9]
  simp [Value.oneCell']
theorem one_own {w : World} {B : Nat} {U : TV} {t : Tr} {lp : Int} (h : OwnT w B t U) : (U.cells lp).all (·.oneCell') = true := by
  obtain ⟨A0, n0, k0, hf0⟩ := slO_form h.in_.i
  obtain ⟨BR, dR, fR, _, _⟩ := h.in_.r.at_
  simp only [TV.cells]
  rw [hf0, fR]
  simp [Value.oneCell']
theorem alloc_trace (w : World) : (Instr.alloc 33 true (.tuple #[])).run Try.prog w = .ok (.pointer (some ⟨w.heap.size, 0, none⟩)) (w.alloc (.cells #[.slice none 0 0, .slice none 0 0, .int .i64 0] 33)) := by kernel_rfl
theorem wp_act_eqR {P : Program} {ops : Array Oper} {Q : Exit → Act → World → Prop} {i : Nat} {K : Act → World → Prop} {a a' : Act} {w : World} (e : a = a') (h : wpOp P ops Q i K a' w) : wpOp P ops Q i K a w := e ▸ h
/-- What the first statement's operations answer. -/
def srC (C : Circ) (m : Int) (v : Value) (w : World) : Prop := ∃ (V : CV) (us : List Value) (B : Nat), v = V.val m ∧ LentC w B C us V
def srT (t : Tr) (lp : Int) (v : Value) (w : World) : Prop := ∃ (U : TV) (B : Nat), v = U.val lp ∧ OwnT w B t U
def srB (N : Nat) (e : TypeId) (z : Array Value) (v : Value) (w : World) : Prop := ∃ b, v = .pointer (some ⟨b, 0, none⟩) ∧ N ≤ b ∧ Blk w b e z
def zeroT : Array Value := #[.slice none 0 0, .slice none 0 0, .int .i64 0]
def srVals (N : Nat) (C : Circ) (t : Tr) (m lp : Int) (cv tv : Value) : List (Value → World → Prop) := [cst cv, srC C m, cst tv, srT t lp, srB N 29 zeroC, srB N 33 zeroT]
theorem sr_keep {N : Nat} {C : Circ} {t : Tr} {m lp : Int} {cv tv : Value} : ∀ i v w1 w2, Below (World.heap w1).size w1 w2 → valL (srVals N C t m lp cv tv) i v w1 → valL (srVals N C t m lp cv tv) i v w2 := by
  refine valL_keep (G := fun w1 w2 => Below (World.heap w1).size w1 w2) _ (fun p hp => ?_)
  simp only [srVals, List.mem_cons, List.not_mem_nil, or_false] at hp
  rcases hp with rfl | rfl | rfl | rfl | rfl | rfl
  · exact cst_stab _
  · rintro v w1 w2 hb ⟨V, us, B, e, h⟩
    exact ⟨V, us, B, e, h.below hb⟩
  · exact cst_stab _
  · rintro v w1 w2 hb ⟨U, B, e, h⟩
    exact ⟨U, B, e, h.below hb⟩
  · rintro v w1 w2 hb ⟨b, e, h1, h2⟩
    exact ⟨b, e, h1, h2.below hb h2.lt⟩
  · rintro v w1 w2 hb ⟨b, e, h1, h2⟩
    exact ⟨b, e, h1, h2.below hb h2.lt⟩
theorem Moms.far {w w' : World} {B : Nat} {row : Option Nat} {xs : List MV} {ms : List Mom} (h : Moms w B xs ms) (hg : w.grownBy w' row) (hlt : ∀ g, row = some g → g < B) : Moms w' B xs ms :=
  ⟨h.len, fun i x m hx hm => (h.at_ i x m hx hm).keep (fun k hk => hg.block k ((h.at_ i x m hx hm).lt hk).2 (fun e => by have := hlt k e.symm; have := ((h.at_ i x m hx hm).lt hk).1; omega)), h.apart⟩
theorem MomB.far {w w' : World} {gm n : Nat} {row : Option Nat} {xs : List MV} (h : MomB w gm n xs) (hg : w.grownBy w' row) (hne : row ≠ some gm) : MomB w' gm n xs := by
  obtain ⟨cs, hb, h1, h2⟩ := h
  exact ⟨cs, Blk.grown hb hg (fun e => hne e.symm), h1, h2⟩
theorem DMs.farR {w w' : World} {B : Nat} {row : Option Nat} {v : Value} {xs : List MV} {ms : List Mom} (h : DMs w B v xs ms) (hg : w.grownBy w' row) (hlt : ∀ g, row = some g → g < B) : DMs w' B v xs ms := by
  have key : ∀ k, B ≤ k → k < w.heap.size → w'.heap[k]? = w.heap[k]? := fun k h1 h2 => hg.block k h2 (fun e => by have := hlt k e.symm; omega)
  exact ⟨h.len, own_of_block h.own (fun k hk => key k (h.own.lt k hk).1 (h.own.lt k hk).2), fun i x m hx hm => (h.at_ i x m hx hm).keep (fun k hk => key k ((h.at_ i x m hx hm).lt hk).1 ((h.at_ i x m hx hm).lt hk).2)⟩
/-- What stands while the first run's lists are spoiled, one moment after the other: the first k of them may be anything. -/
structure RL (wc wr : World) (B2 B3 gm gm2 n : Nat) (xs ys zs : List MV) (bv : Value) (ms : List Mom) (k : Nat) : Prop where
  a : MomB wr gm n xs
  s : ∀ (j : Nat) (x : MV) (m : Mom), k ≤ j → xs[j]? = some x → ms[j]? = some m → wr.ownsRow wc.heap.size 4 1 x.s m.st.length (m.st.map Value.bool) ∧ wr.ownsRow wc.heap.size 3 1 x.b m.bads.length (m.bads.map (Value.int .i64))
  ap : ∀ (i j : Nat) (x y : MV), i < j → xs[i]? = some x → xs[j]? = some y → ApV x.s y.s ∧ ApV x.b y.b
  l : ∀ (j : Nat) (x : MV) (g : Nat), xs[j]? = some x → (x.s.ownBlock = some g ∨ x.b.ownBlock = some g) → wc.heap.size ≤ g ∧ g < B2
  g2 : B2 ≤ gm2
  b3 : B2 ≤ B3
  y : MomB wr gm2 n ys
  ym : Moms wr B2 ys ms
  z : DMs wr B3 bv zs ms
  below : Below wc.heap.size wc wr
theorem RL.on {wc wr w' : World} {B2 B3 gm gm2 n k : Nat} {xs ys zs : List MV} {bv : Value} {ms : List Mom} (h : RL wc wr B2 B3 gm gm2 n xs ys zs bv ms k) (hb : Below wr.heap.size wr w') : RL wc w' B2 B3 gm gm2 n xs ys zs bv ms k :=
  ⟨h.a.below hb h.a.lt, fun j x m hj hx hm => ⟨own_below (h.s j x m hj hx hm).1 hb, own_below (h.s j x m hj hx hm).2 hb⟩, h.ap, h.l, h.g2, h.b3, h.y.below hb h.y.lt, h.ym.below hb, h.z.below hb, bt h.below (Nat.le_refl _) hb⟩
theorem RL.na {wc wr : World} {B2 B3 gm gm2 n k : Nat} {xs ys zs : List MV} {bv : Value} {ms : List Mom} (h : RL wc wr B2 B3 gm gm2 n xs ys zs bv ms k) {x : MV} {m : Mom} (hx : xs[k]? = some x) (hm : ms[k]? = some m) : x.s.ownBlock ≠ some gm := by
  obtain ⟨cs, hk, _, _⟩ := h.a
  exact own_blk_ne (h.s k x m (Nat.le_refl _) hx hm).1 hk (by decide)
theorem RL.spoil {wc wr w1 w2 : World} {B2 B3 gm gm2 n k : Nat} {xs ys zs : List MV} {bv : Value} {ms : List Mom} {x : MV} {m : Mom} (h : RL wc wr B2 B3 gm gm2 n xs ys zs bv ms k) (hx : xs[k]? = some x) (hm : ms[k]? = some m)
    (h1 : wr.grownBy w1 x.s.ownBlock) (h2 : w1.grownBy w2 x.b.ownBlock) : RL wc w2 B2 B3 gm gm2 n xs ys zs bv ms (k + 1) := by
  obtain ⟨os, ob⟩ := h.s k x m (Nat.le_refl _) hx hm
  have ob1 := own_other ob os (by decide) h1
  have r1 : ∀ g, x.s.ownBlock = some g → wc.heap.size ≤ g ∧ g < B2 := fun g hg => h.l k x g hx (.inl hg)
  have r2 : ∀ g, x.b.ownBlock = some g → wc.heap.size ≤ g ∧ g < B2 := fun g hg => h.l k x g hx (.inr hg)
  have na : ∀ {w : World} {gx : Nat} {zs : List MV}, MomB w gx n zs → ∀ {e : TypeId} {v : Value} {q : Nat} {vs : List Value}, w.ownsRow wc.heap.size e 1 v q vs → e ≠ 44 → v.ownBlock ≠ some gx := fun {_ _ _} hb {_ _ _ _} ho hne => by
    obtain ⟨cs, hk, _, _⟩ := hb
    exact own_blk_ne ho hk hne
  have a1 := h.a.far h1 (na h.a os (by decide))
  have y1 := h.y.far h1 (na h.y os (by decide))
  refine ⟨a1.far h2 (na a1 ob1 (by decide)), fun j z p hj hz hp => ?_, h.ap, h.l, h.g2, h.b3, y1.far h2 (na y1 ob1 (by decide)), ?_, ?_, ?_⟩
  · obtain ⟨zs', zb⟩ := h.s j z p (by omega) hz hp
    obtain ⟨e1, e2⟩ := h.ap k j x z (by omega) hx hz
    have zs1 : w1.ownsRow wc.heap.size 4 1 z.s p.st.length (p.st.map Value.bool) := own_of_block zs' (fun g hg => h1.block g (zs'.lt g hg).2 (fun e => e1 g e.symm hg))
    have zb1 := own_other zb os (by decide) h1
    exact ⟨own_other zs1 ob1 (by decide) h2, own_of_block zb1 (fun g hg => h2.block g (zb1.lt g hg).2 (fun e => e2 g e.symm hg))⟩
  · exact (h.ym.far h1 (fun g hg => (r1 g hg).2)).far h2 (fun g hg => (r2 g hg).2)
  · exact (h.z.farR h1 (fun g hg => by have := (r1 g hg).2; have := h.b3; omega)).farR h2 (fun g hg => by have := (r2 g hg).2; have := h.b3; omega)
  · have hb1 := h.below.grown h1 h.below.size (fun g hg => (r1 g hg).1)
    exact hb1.grown h2 hb1.size (fun g hg => (r2 g hg).1)

/-- What stands behind the first statement: both boxes, both copies. -/
structure SR (w wx : World) (gi gt : Nat) (V U : CV) (us : List Value) (S R : TV) (C : Circ) (t : Tr) : Prop where
  c : Blk wx w.heap.size 29 (V.cells C.max)
  tr : Blk wx (w.heap.size + 1) 33 (S.cells t.loop)
  ci : Blk wx gi 29 (U.cells C.max)
  ti : Blk wx gt 33 (R.cells t.loop)
  l : ∃ B, LentC wx B C us U
  r : t.In wx R
  b : Below w.heap.size w wx
theorem SR.below {w wx wz : World} {gi gt : Nat} {V U : CV} {us : List Value} {S R : TV} {C : Circ} {t : Tr} (h : SR w wx gi gt V U us S R C t) (hb : Below wx.heap.size wx wz) : SR w wz gi gt V U us S R C t := by
  obtain ⟨B, hl⟩ := h.l
  exact ⟨h.c.below hb h.c.lt, h.tr.below hb h.tr.lt, h.ci.below hb h.ci.lt, h.ti.below hb h.ti.lt, ⟨B, hl.below hb⟩, h.r.below hb, bt h.b (Nat.le_refl _) hb⟩
set_option maxHeartbeats 20000000 in
set_option maxRecDepth 100000 in
theorem simRuns_walk (w : World) (V : CV) (C : Circ) (U : TV) (t : Tr) (h : C.In w V) (ok : C.Ok) (rm : C.Room ∧ C.Reach) (ht : t.In w U) (hr : t.Reach) :
    Calls Try.prog 3 #[V.val C.max, U.val t.loop] w fun e w' => e = .returned (.bool true) ∧ Below w.heap.size w w' := by
  obtain ⟨O, hO⟩ := ord_ex h ok
  obtain ⟨rm, re⟩ := rm
  have HIN := Lib.hid (And.intro h ht)
  have HRMC := Lib.hid (And.intro rm re)
  have HRTC := Lib.hid hr
  have HRUN := Lib.hid (fun (wx : World) (V2 : CV) (U2 : TV) (hx : C.In wx V2) (hy : t.In wx U2) => Run_any wx V2 C U2 t O hx ok rm hy hO)
  have HRR := Lib.hid (fun (wx : World) (V2 : CV) (U2 : TV) (hx : C.In wx V2) (hy : t.In wx U2) => rRun_any wx V2 C U2 t O hx ok rm re.t hy hO)
  have HKEPT := Lib.hid (fun (wx : World) (B : Nat) (V2 V3 : CV) (us : List Value) (hl : LentC wx B C us V2) (hx : C.In wx V3) => KeptCircuit_any wx B V2 V3 C us hl hx)
  have HSAME := Lib.hid (fun (wx : World) (U2 U3 : TV) (hx : t.In wx U2) (hy : t.In wx U3) => SameTrace_any wx U2 U3 t hx hy)
  obtain ⟨AI, ni, cI, eI⟩ := slO_form ht.i
  obtain ⟨AR, cR, eR, _, _⟩ := ht.r.at_
  obtain ⟨Vi, Vl, Vo, Vb, Vc, Vj, Vf, Va, Vs, Vt⟩ := V
  obtain ⟨Ui, Ur⟩ := U
  simp only at eI eR
  subst eI eR
  obtain ⟨m, hmm⟩ : ∃ m, C.max = m := ⟨_, rfl⟩
  obtain ⟨lp, hlp⟩ : ∃ lp, t.loop = lp := ⟨_, rfl⟩
  obtain ⟨nr, hnr⟩ : ∃ n, t.rows.length = n := ⟨_, rfl⟩
  have HMM := Lib.hid (And.intro hmm (And.intro hlp hnr))
  rw [hmm, hlp] at HRUN HRR
  rw [hnr] at HRUN
  rw [hmm] at HKEPT
  rw [hlp] at HSAME
  rw [hmm, hlp]
  rw [hnr] at HIN ⊢
  clear h ok rm re ht hr hO hmm hlp hnr
  go_enter Try.func3, Try.ntmps3
  go_upto_region 1 with (fail)
  go_cut [5, 6] (fun p q wx => ∃ (gi gt : Nat) (U2 : CV) (us : List Value) (R : TV), p = .pointer (some ⟨gi, 0, none⟩) ∧ q = .pointer (some ⟨gt, 0, none⟩) ∧ SR w wx gi gt ⟨Vi, Vl, Vo, Vb, Vc, Vj, Vf, Va, Vs, Vt⟩ U2 us ⟨.slice AI ni cI, .slice AR nr cR⟩ R C t)
  case first =>
    have HLE := Lib.hid (fun (wx : World) (hx : C.In wx ⟨Vi, Vl, Vo, Vb, Vc, Vj, Vf, Va, Vs, Vt⟩) => LendCircuit_any wx ⟨Vi, Vl, Vo, Vb, Vc, Vj, Vf, Va, Vs, Vt⟩ C hx HRMC.out.1 ⟨HRMC.out.2.i, HRMC.out.2.o, HRMC.out.2.b, HRMC.out.2.c, HRMC.out.2.f, HRMC.out.2.l, HRMC.out.2.a⟩)
    have HCT := Lib.hid (fun (wx : World) (hx : t.In wx ⟨.slice AI ni cI, .slice AR nr cR⟩) => CopyTrace_any wx ⟨.slice AI ni cI, .slice AR nr cR⟩ t hx HRTC.out)
    rw [HMM.out.1] at HLE
    rw [HMM.out.2.1] at HCT
    obtain ⟨X, hX⟩ : ∃ X, X = ((w.alloc (.cells #[.int .i64 m, Vi, Vl, Vo, Vb, Vc, Vj, Vf, Va, Vs, Vt] 29)).alloc (.cells #[.slice AI ni cI, .slice AR nr cR, .int .i64 lp] 33)) := ⟨_, rfl⟩
    have hXB : Below w.heap.size w X := by rw [hX]; exact ((Below.refl w.heap.size w).alloc (Nat.le_refl _) _).alloc (by simp) _
    have hX0 : Blk X w.heap.size 29 #[.int .i64 m, Vi, Vl, Vo, Vb, Vc, Vj, Vf, Va, Vs, Vt] := by rw [hX]; exact (Blk.new w _ _).alloc _
    have hX1 : Blk X (w.heap.size + 1) 33 #[.slice AI ni cI, .slice AR nr cR, .int .i64 lp] := by
      rw [hX]
      have h9 := Blk.new (w.alloc (.cells #[.int .i64 m, Vi, Vl, Vo, Vb, Vc, Vj, Vf, Va, Vs, Vt] 29)) 33 #[.slice AI ni cI, .slice AR nr cR, .int .i64 lp]
      rwa [show (w.alloc (.cells #[.int .i64 m, Vi, Vl, Vo, Vb, Vc, Vj, Vf, Va, Vs, Vt] 29)).heap.size = w.heap.size + 1 by simp] at h9
    rw [← hX]
    have HOLD : ∀ wz, Below X.heap.size X wz → C.In wz ⟨Vi, Vl, Vo, Vb, Vc, Vj, Vf, Va, Vs, Vt⟩ ∧ t.In wz ⟨.slice AI ni cI, .slice AR nr cR⟩ ∧ Blk wz w.heap.size 29 #[.int .i64 m, Vi, Vl, Vo, Vb, Vc, Vj, Vf, Va, Vs, Vt] ∧ Blk wz (w.heap.size + 1) 33 #[.slice AI ni cI, .slice AR nr cR, .int .i64 lp] := fun wz hb => by
      have h9 := bt hXB (Nat.le_refl _) hb
      exact ⟨HIN.out.1.below h9, HIN.out.2.below h9, hX0.below hb hX0.lt, hX1.below hb hX1.lt⟩
    refine region_lit ?_
    intro ops hops
    have HBA : (webB ops && acyB ops && (ops.size == 6 + 2) && Region.sinkB .any ops 6 && Region.waitsFor .any ops (6 + 1) 6) = true := by rw [hops]; kernel_rfl
    have HB : webB ops = true := by rw [hops]; kernel_rfl
    have HND2 : ∀ j, j < ops.size → dstOf ops j ≠ some 2 := noDst_spec (by rw [hops]; kernel_rfl)
    have HND3 : ∀ j, j < ops.size → dstOf ops j ≠ some 3 := noDst_spec (by rw [hops]; kernel_rfl)
    obtain ⟨w0, hw0⟩ : ∃ w0 : World, w0 = { X with drawn := X.drawn + 1 } := ⟨_, rfl⟩
    have hb0 : Below X.heap.size X w0 := by rw [hw0]; exact (Below.refl _ _).drew
    refine wp_region_wes (by kernel_rfl) 6 HBA (fun w1 w2 => Below w1.heap.size w1 w2) (valL (srVals X.heap.size C t m lp (.agg #[.int .i64 m, Vi, Vl, Vo, Vb, Vc, Vj, Vf, Va, Vs, Vt]) (.agg #[.slice AI ni cI, .slice AR nr cR, .int .i64 lp]))) (fun _ _ _ _ => True) (fun _ _ _ _ _ => True) (fun _ _ _ _ _ _ _ _ _ _ _ => ⟨trivial, trivial⟩) (fun _ _ _ _ _ _ _ _ => trivial) (fun a => Below.refl _ _) (fun a b c h1 h2 => bt h1 (Nat.le_refl _) h2) sr_keep ?_ ?_
    · intro i o hi ho
      rw [← hw0]
      rw [hops] at ho
      match i, hi, ho with
      | 0, _, ho =>
        simp only [List.getElem?_toArray, List.getElem?_cons_zero, Option.some.injEq] at ho; subst ho
        refine wesStep_of HB rfl (fun f aC wz hw hd ha hv hsp K hK => ?_)
        have hbx : Below X.heap.size X wz := bt hb0 (Nat.le_refl _) (hw.mono (Nat.le_refl _))
        have e1 : aC.eval (.tmp 2) = .pointer (some ⟨w.heap.size, 0, none⟩) := (ha 2 HND2).trans rfl
        refine wp_load_row 29 (.tmp 2) rfl w.heap.size e1 29 _ (0, 0) _ (HOLD wz hbx).2.2.1 Try.underlying29 rfl (by kernel_rfl) ?_
        exact hK _ _ (Below.refl _ _) rfl trivial
      | 1, _, ho =>
        simp only [List.getElem?_toArray, List.getElem?_cons_zero, List.getElem?_cons_succ, Option.some.injEq] at ho; subst ho
        refine wesStep_of HB rfl (fun f aC wz hw hd ha hv hsp K hK => ?_)
        have hbx : Below X.heap.size X wz := bt hb0 (Nat.le_refl _) (hw.mono (Nat.le_refl _))
        have e1 : aC.eval (.tmp 14) = .agg #[.int .i64 m, Vi, Vl, Vo, Vb, Vc, Vj, Vf, Va, Vs, Vt] := (hd 0 14 (by rw [hops]; kernel_rfl : Region.waitsFor .any ops 1 0 = true) (by rw [hops]; kernel_rfl : dstOf ops 0 = some 14) (by simp)).trans (hv 0 (by rw [hops]; kernel_rfl : Region.waitsFor .any ops 1 0 = true))
        refine wp_enter (f := 4) (args := #[.agg #[.int .i64 m, Vi, Vl, Vo, Vb, Vc, Vj, Vf, Va, Vs, Vt]]) ?_ ((HLE.out wz (HOLD wz hbx).1).mono ?_)
        · simp [execOp, resolve, e1]; rfl
        · rintro e w' ⟨V', us', rfl, hbel, hcop⟩
          exact ⟨_, rfl, hK _ w' hbel ⟨V', us', _, rfl, hcop⟩ trivial⟩
      | 2, _, ho =>
        simp only [List.getElem?_toArray, List.getElem?_cons_zero, List.getElem?_cons_succ, Option.some.injEq] at ho; subst ho
        refine wesStep_of HB rfl (fun f aC wz hw hd ha hv hsp K hK => ?_)
        have hbx : Below X.heap.size X wz := bt hb0 (Nat.le_refl _) (hw.mono (Nat.le_refl _))
        have e1 : aC.eval (.tmp 3) = .pointer (some ⟨w.heap.size + 1, 0, none⟩) := (ha 3 HND3).trans rfl
        refine wp_load_row 33 (.tmp 3) rfl (w.heap.size + 1) e1 33 _ (0, 0) _ (HOLD wz hbx).2.2.2 Try.underlying33 rfl (by kernel_rfl) ?_
        exact hK _ _ (Below.refl _ _) rfl trivial
      | 3, _, ho =>
        simp only [List.getElem?_toArray, List.getElem?_cons_zero, List.getElem?_cons_succ, Option.some.injEq] at ho; subst ho
        refine wesStep_of HB rfl (fun f aC wz hw hd ha hv hsp K hK => ?_)
        have hbx : Below X.heap.size X wz := bt hb0 (Nat.le_refl _) (hw.mono (Nat.le_refl _))
        have e1 : aC.eval (.tmp 16) = .agg #[.slice AI ni cI, .slice AR nr cR, .int .i64 lp] := (hd 2 16 (by rw [hops]; kernel_rfl : Region.waitsFor .any ops 3 2 = true) (by rw [hops]; kernel_rfl : dstOf ops 2 = some 16) (by simp)).trans (hv 2 (by rw [hops]; kernel_rfl : Region.waitsFor .any ops 3 2 = true))
        refine wp_enter (f := 5) (args := #[.agg #[.slice AI ni cI, .slice AR nr cR, .int .i64 lp]]) ?_ ((HCT.out wz (HOLD wz hbx).2.1).mono ?_)
        · simp [execOp, resolve, e1]; rfl
        · rintro e w' ⟨U', rfl, hbel, B', hcop⟩
          exact ⟨_, rfl, hK _ w' hbel ⟨U', B', rfl, hcop⟩ trivial⟩
      | 4, _, ho =>
        simp only [List.getElem?_toArray, List.getElem?_cons_zero, List.getElem?_cons_succ, Option.some.injEq] at ho; subst ho
        refine wesStep_of HB rfl (fun f aC wz hw hd ha hv hsp K hK => ?_)
        have hbx : Below X.heap.size X wz := bt hb0 (Nat.le_refl _) (hw.mono (Nat.le_refl _))
        refine wp_val (v := .pointer (some ⟨wz.heap.size, 0, none⟩)) (w' := wz.alloc (.cells zeroC 29)) ?_ (hK _ _ ((Below.refl _ _).alloc (Nat.le_refl _) _) ⟨_, rfl, hbx.size, Blk.new _ _ _⟩ trivial)
        exact run_value (alloc_circ wz)
      | 5, _, ho =>
        simp only [List.getElem?_toArray, List.getElem?_cons_zero, List.getElem?_cons_succ, Option.some.injEq] at ho; subst ho
        refine wesStep_of HB rfl (fun f aC wz hw hd ha hv hsp K hK => ?_)
        have hbx : Below X.heap.size X wz := bt hb0 (Nat.le_refl _) (hw.mono (Nat.le_refl _))
        refine wp_val (v := .pointer (some ⟨wz.heap.size, 0, none⟩)) (w' := wz.alloc (.cells zeroT 33)) ?_ (hK _ _ ((Below.refl _ _).alloc (Nat.le_refl _) _) ⟨_, rfl, hbx.size, Blk.new _ _ _⟩ trivial)
        exact run_value (alloc_trace wz)
      | n + 6, h, _ => exact absurd h (by omega)
    · intro f wz hw hv hsp
      rw [← hw0] at hw
      obtain ⟨V1, us, B1, e1, k1⟩ : srC C m (f 1) wz := hv 1 (by decide)
      obtain ⟨U1, B2, e3, k3⟩ : srT t lp (f 3) wz := hv 3 (by decide)
      obtain ⟨x5, e4, h4, k4⟩ : srB X.heap.size 29 zeroC (f 4) wz := hv 4 (by decide)
      obtain ⟨x6, e5, h5, k5⟩ : srB X.heap.size 33 zeroT (f 5) wz := hv 5 (by decide)
      have hne : x5 ≠ x6 := fun e => by
        subst e
        have h1 : wz.heap[x5]? = some (.cells zeroC 29 (0, 0)) := k4
        have h2 : wz.heap[x5]? = some (.cells zeroT 33 (0, 0)) := k5
        rw [h1] at h2
        injection h2 with h2
        injection h2 with _ h2 _
        exact absurd h2 (by decide)
      have e : putAll ops f (List.range 6) ({ tmps := #[.agg #[.int .i64 m, Vi, Vl, Vo, Vb, Vc, Vj, Vf, Va, Vs, Vt], .agg #[.slice AI ni cI, .slice AR nr cR, .int .i64 lp], .pointer (some ⟨w.heap.size, 0, none⟩), .pointer (some ⟨w.heap.size + 1, 0, none⟩), .bool false, undef, undef, undef, undef, undef, undef, undef, undef, undef, undef, undef, undef, undef, undef, undef, undef, undef, undef, undef, undef, undef, undef, undef, undef, undef, undef, undef, undef, undef, undef, undef, undef, undef, undef, undef, undef, undef, undef, undef, undef, undef, undef, undef, undef, undef, undef, undef, undef, undef, undef, undef, undef, undef, undef, undef, undef, undef, undef, undef, undef, undef, undef, undef, undef, undef, undef, undef, undef, undef, undef, undef, undef, undef, undef, undef, undef, undef, undef, undef, undef, undef, undef, undef, undef, undef, undef, undef, undef, undef, undef, undef, undef, undef, undef, undef, undef, undef, undef, undef, undef, undef, undef, undef, undef, undef, undef, undef, undef, undef, undef, undef], defers := [] } : Act) = ({ tmps := #[.agg #[.int .i64 m, Vi, Vl, Vo, Vb, Vc, Vj, Vf, Va, Vs, Vt], .agg #[.slice AI ni cI, .slice AR nr cR, .int .i64 lp], .pointer (some ⟨w.heap.size, 0, none⟩), .pointer (some ⟨w.heap.size + 1, 0, none⟩), .bool false, f 4, f 5, undef, undef, undef, undef, undef, undef, undef, f 0, f 1, f 2, f 3, undef, undef, undef, undef, undef, undef, undef, undef, undef, undef, undef, undef, undef, undef, undef, undef, undef, undef, undef, undef, undef, undef, undef, undef, undef, undef, undef, undef, undef, undef, undef, undef, undef, undef, undef, undef, undef, undef, undef, undef, undef, undef, undef, undef, undef, undef, undef, undef, undef, undef, undef, undef, undef, undef, undef, undef, undef, undef, undef, undef, undef, undef, undef, undef, undef, undef, undef, undef, undef, undef, undef, undef, undef, undef, undef, undef, undef, undef, undef, undef, undef, undef, undef, undef, undef, undef, undef, undef, undef, undef, undef, undef, undef, undef, undef, undef, undef, undef], defers := [] } : Act) := by rw [hops]; kernel_rfl
      refine wp_act_eqR e ?_
      clear e
      have ho6 : ∃ o, ops[6]? = some o ∧ o.guard = none ∧ o.op = .store 29 (.tmp 5) (.tmp 15) ∧ o.dst = none := by rw [hops]; exact ⟨_, rfl, rfl, rfl, rfl⟩
      obtain ⟨o, ho1, ho2, ho3, ho4⟩ := ho6
      refine wpOp_of ho1 ho2 ?_
      refine wp_store_row 29 (.tmp 5) (.tmp 15) ho3 x5 (V1.cells m) (by exact e4) (by exact e1) 29 _ k4 (by kernel_rfl) rfl (one_lent k1) ?_
      rw [ho4]
      clear ho1 ho2 ho3 ho4 o
      obtain ⟨w3, hw3⟩ : ∃ w3, w3 = wz.setRow x5 (V1.cells m) := ⟨_, rfl⟩
      rw [← hw3]
      have k5a : Blk w3 x5 29 (V1.cells m) := by rw [hw3]; exact setRow_heap wz x5 _ (V1.cells m) _ _ k4
      have ot3 : ∀ k, k ≠ x5 → w3.heap[k]? = wz.heap[k]? := fun k hk => by
        rw [hw3]
        simp only [World.setRow, Array.getElem?_modify]
        rw [if_neg (fun e => hk e.symm)]
      have sz3 : w3.heap.size = wz.heap.size := by rw [hw3]; simp
      have k6a : Blk w3 x6 33 zeroT := (ot3 x6 (Ne.symm hne)).trans k5
      have hb3 : Below X.heap.size X w3 := by
        have h1 := bt hb0 (Nat.le_refl _) (hw.mono (Nat.le_refl _))
        exact ⟨by rw [hw3]; exact h1.os, by rw [hw3]; exact h1.tape, by rw [hw3]; exact h1.output, by rw [sz3]; exact h1.size, fun k hk => (ot3 k (by omega)).trans (h1.block k hk)⟩
      have kc3 := k1.box k4 (.inl rfl) ot3
      have kt3 := k3.box k4 (.inl rfl) ot3
      clear hw3 ot3
      have ho7 : ∃ o, ops[7]? = some o ∧ o.guard = none ∧ o.op = .store 33 (.tmp 6) (.tmp 17) ∧ o.dst = none := by rw [hops]; exact ⟨_, rfl, rfl, rfl, rfl⟩
      obtain ⟨o, ho1, ho2, ho3, ho4⟩ := ho7
      refine wpOp_of ho1 ho2 ?_
      refine wp_store_row 33 (.tmp 6) (.tmp 17) ho3 x6 (U1.cells lp) (by exact e5) (by exact e3) 33 _ k6a (by kernel_rfl) rfl (one_own kt3) ?_
      rw [ho4]
      clear ho1 ho2 ho3 ho4 o hops HBA HB HND2 HND3
      obtain ⟨w5, hw5⟩ : ∃ w5, w5 = w3.setRow x6 (U1.cells lp) := ⟨_, rfl⟩
      rw [← hw5]
      have l6 : Blk w5 x6 33 (U1.cells lp) := by rw [hw5]; exact setRow_heap w3 x6 _ (U1.cells lp) _ _ k6a
      have ot5 : ∀ k, k ≠ x6 → w5.heap[k]? = w3.heap[k]? := fun k hk => by
        rw [hw5]
        simp only [World.setRow, Array.getElem?_modify]
        rw [if_neg (fun e => hk e.symm)]
      have sz5 : w5.heap.size = w3.heap.size := by rw [hw5]; simp
      have l5 : Blk w5 x5 29 (V1.cells m) := (ot5 x5 hne).trans k5a
      have hb5 : Below X.heap.size X w5 := ⟨by rw [hw5]; exact hb3.os, by rw [hw5]; exact hb3.tape, by rw [hw5]; exact hb3.output, by rw [sz5]; exact hb3.size, fun k hk => (ot5 k (by omega)).trans (hb3.block k hk)⟩
      have kc5 := kc3.box k6a (.inr rfl) ot5
      have kt5 := kt3.box k6a (.inr rfl) ot5
      have hold := HOLD w5 hb5
      have hSR : SR w w5 x5 x6 ⟨Vi, Vl, Vo, Vb, Vc, Vj, Vf, Va, Vs, Vt⟩ V1 us ⟨.slice AI ni cI, .slice AR nr cR⟩ U1 C t := by
        refine ⟨?_, ?_, ?_, ?_, ⟨B1, kc5⟩, kt5.in_, bt hXB (Nat.le_refl _) hb5⟩
        · rw [HMM.out.1]; exact hold.2.2.1
        · rw [HMM.out.2.1]; exact hold.2.2.2
        · rw [HMM.out.1]; exact l5
        · rw [HMM.out.2.1]; exact l6
      have HSR := Lib.hid hSR
      rw [e1, e3, e4, e5, show f 0 = .agg #[.int .i64 m, Vi, Vl, Vo, Vb, Vc, Vj, Vf, Va, Vs, Vt] from hv 0 (by decide), show f 2 = .agg #[.slice AI ni cI, .slice AR nr cR, .int .i64 lp] from hv 2 (by decide)]
      clear hw5 ot5 hsp hv kc3 kt3 k4 k5 k5a k6a hb3 e1 e3 e4 e5 hw hb0 hw0 h4 h5 hold hSR kc5 kt5 l5 l6 hb5 sz3 sz5 hne k1 k3
      first
        | (go_meet; exact ⟨x5, x6, V1, us, U1, rfl, rfl, HSR.out⟩)
        | (go_wp2_with (fail); go_meet; exact ⟨x5, x6, V1, us, U1, rfl, rfl, HSR.out⟩)
        | (simp only []; go_meet; exact ⟨x5, x6, V1, us, U1, rfl, rfl, HSR.out⟩)
        | (trace_state; fail)
  case rest =>
    obtain ⟨gi, gt, U2, us, R, rfl, rfl, hsr⟩ := hcut
    obtain ⟨B, hl1⟩ := hsr.l
    obtain ⟨Ui2, Ul2, Uo2, Ub2, Uc2, Uj2, Uf2, Ua2, Us2, Ut2⟩ := U2
    obtain ⟨A0, n0, k0, hf0⟩ := sl_form hl1.in_.i
    obtain ⟨A1, n1, k1, hf1⟩ := sl_form hl1.in_.l
    obtain ⟨A2, n2, k2, hf2⟩ := sl_form hl1.in_.o
    obtain ⟨A3, n3, k3, hf3⟩ := sl_form hl1.in_.b
    obtain ⟨A4, n4, k4, hf4⟩ := sl_form hl1.in_.c
    obtain ⟨A5, n5, k5, hf5⟩ := sl_formL hl1.in_.j
    obtain ⟨A6, n6, k6, hf6⟩ := sl_form hl1.in_.f
    obtain ⟨A7, n7, k7, hf7⟩ := sl_form hl1.in_.a
    obtain ⟨A8, n8, k8, hf8⟩ := sl_form hl1.in_.s
    obtain ⟨A9, n9, k9, hf9⟩ := sl_form hl1.in_.t
    simp only at hf0 hf1 hf2 hf3 hf4 hf5 hf6 hf7 hf8 hf9
    subst hf0 hf1 hf2 hf3 hf4 hf5 hf6 hf7 hf8 hf9
    obtain ⟨BR, dR, fR, _, _⟩ := hsr.r.r.at_
    obtain ⟨BI, nj, dI, fI⟩ := slO_form hsr.r.i
    obtain ⟨Ri, Rr⟩ := R
    simp only at fR fI
    subst fR fI
    have hall : ∀ wz, Below wc.heap.size wc wz → Blk wz w.heap.size 29 #[.int .i64 m, Vi, Vl, Vo, Vb, Vc, Vj, Vf, Va, Vs, Vt] ∧ Blk wz (w.heap.size + 1) 33 #[.slice AI ni cI, .slice AR nr cR, .int .i64 lp] ∧ Blk wz gi 29 #[.int .i64 m, .slice A0 n0 k0, .slice A1 n1 k1, .slice A2 n2 k2, .slice A3 n3 k3, .slice A4 n4 k4, .slice A5 n5 k5, .slice A6 n6 k6, .slice A7 n7 k7, .slice A8 n8 k8, .slice A9 n9 k9] ∧ Blk wz gt 33 #[.slice BI nj dI, .slice BR nr dR, .int .i64 lp] ∧ (∃ B, LentC wz B C us (⟨.slice A0 n0 k0, .slice A1 n1 k1, .slice A2 n2 k2, .slice A3 n3 k3, .slice A4 n4 k4, .slice A5 n5 k5, .slice A6 n6 k6, .slice A7 n7 k7, .slice A8 n8 k8, .slice A9 n9 k9⟩ : CV)) ∧ t.In wz ⟨.slice BI nj dI, .slice BR nr dR⟩ ∧ Below w.heap.size w wz := fun wz hb => by
      have h9 := hsr.below hb
      have h1 := h9.c
      have h2 := h9.tr
      have h3 := h9.ci
      have h4 := h9.ti
      have h5 := h9.r
      rw [HMM.out.1] at h1 h3
      rw [HMM.out.2.1] at h2 h4
      simp only [HMM.out.2.2] at h4 h5
      exact ⟨h1, h2, h3, h4, h9.l, h5, h9.b⟩
    have HALL := Lib.hid hall
    have HX := Lib.hid (Below.refl wc.heap.size wc)
    clear hl1 hsr hall
    obtain ⟨c0, c1, c2, c3, c4, c5, c6, c7, c8, c9, c10⟩ := rbox_of (HALL.out _ HX.out).1
    obtain ⟨x0, x1, x2⟩ := trio_of (HALL.out _ HX.out).2.1
    obtain ⟨e0, e1, e2, e3, e4, e5, e6, e7, e8, e9, e10⟩ := rbox_of (HALL.out _ HX.out).2.2.1
    obtain ⟨y0, y1, y2⟩ := trio_of (HALL.out _ HX.out).2.2.2.1
    by_cases hE : runE C t = 0
    · rw [hE] at HRUN HRR
      have HMSR : Hid (rowMs C O t = momsG C O t.init t.rows) := Lib.hid (by unfold rowMs; rw [if_pos hE])
      rw [HMSR.out] at HRR
      obtain ⟨ms, hms⟩ : ∃ ms, momsG C O t.init t.rows = ms := ⟨_, rfl⟩
      have HML : Hid (ms.length = nr) := Lib.hid (by rw [← hms, momsG_len, HMM.out.2.2])
      have hn5 : nr ≤ 512 := by have := (fits_of (runE_ok hE).2).n2; rw [HMM.out.2.2] at this; exact this
      have hnx : nr ≤ maxLen := by unfold maxLen; omega
      rw [hms] at HRUN HRR
      have HNX := Lib.hid hnx
      clear hE hms HMSR hnx
      go_upto_region 3 with (go_at_call 6; go_loud (obtain ⟨BL, hlx⟩ := (HALL.out _ HX.out).2.2.2.2.1; refine (HRUN.out _ (⟨.slice A0 n0 k0, .slice A1 n1 k1, .slice A2 n2 k2, .slice A3 n3 k3, .slice A4 n4 k4, .slice A5 n5 k5, .slice A6 n6 k6, .slice A7 n7 k7, .slice A8 n8 k8, .slice A9 n9 k9⟩ : CV) ⟨.slice BI nj dI, .slice BR nr dR⟩ hlx.in_ (HALL.out _ HX.out).2.2.2.2.2.1).mono ?_; rintro e w1 ⟨hb, v, rfl, _, hyes⟩; obtain ⟨gm, xs, rfl, hgm, hmb, hmm2⟩ := hyes (by first | rfl | trivial); have HG1 := Lib.hid hgm; have HMB := Lib.hid hmb; have HMS := Lib.hid hmm2; clear hyes hgm hmb hmm2 hlx; have HXN := Lib.hid (bt HX.out (Nat.le_refl _) hb); clear HX hb c0 c1 c2 c3 c4 c5 c6 c7 c8 c9 c10 x0 x1 x2 e0 e1 e2 e3 e4 e5 e6 e7 e8 e9 e10 y0 y1 y2; have HX := HXN; clear HXN; obtain ⟨c0, c1, c2, c3, c4, c5, c6, c7, c8, c9, c10⟩ := rbox_of (HALL.out _ HX.out).1; obtain ⟨x0, x1, x2⟩ := trio_of (HALL.out _ HX.out).2.1; obtain ⟨e0, e1, e2, e3, e4, e5, e6, e7, e8, e9, e10⟩ := rbox_of (HALL.out _ HX.out).2.2.1; obtain ⟨y0, y1, y2⟩ := trio_of (HALL.out _ HX.out).2.2.2.1))
      have HW1 := Lib.hid HX.out.size
      go_upto_region 4 with (go_at_call 6; go_loud (obtain ⟨BL, hlx⟩ := (HALL.out _ HX.out).2.2.2.2.1; refine (HRUN.out _ (⟨.slice A0 n0 k0, .slice A1 n1 k1, .slice A2 n2 k2, .slice A3 n3 k3, .slice A4 n4 k4, .slice A5 n5 k5, .slice A6 n6 k6, .slice A7 n7 k7, .slice A8 n8 k8, .slice A9 n9 k9⟩ : CV) ⟨.slice BI nj dI, .slice BR nr dR⟩ hlx.in_ (HALL.out _ HX.out).2.2.2.2.2.1).mono ?_; rintro e w2 ⟨hb, v, rfl, _, hyes⟩; obtain ⟨gm2, ys, rfl, hgm, hmb, hmm2⟩ := hyes (by first | rfl | trivial); have HG2 := Lib.hid hgm; have HMB2 := Lib.hid hmb; have HMS2 := Lib.hid hmm2; have HA2 := Lib.hid hb; clear hyes hgm hmb hmm2 hlx; have HXN := Lib.hid (bt HX.out (Nat.le_refl _) hb); clear HX hb c0 c1 c2 c3 c4 c5 c6 c7 c8 c9 c10 x0 x1 x2 e0 e1 e2 e3 e4 e5 e6 e7 e8 e9 e10 y0 y1 y2; have HX := HXN; clear HXN; obtain ⟨c0, c1, c2, c3, c4, c5, c6, c7, c8, c9, c10⟩ := rbox_of (HALL.out _ HX.out).1; obtain ⟨x0, x1, x2⟩ := trio_of (HALL.out _ HX.out).2.1; obtain ⟨e0, e1, e2, e3, e4, e5, e6, e7, e8, e9, e10⟩ := rbox_of (HALL.out _ HX.out).2.2.1; obtain ⟨y0, y1, y2⟩ := trio_of (HALL.out _ HX.out).2.2.2.1))
      go_upto_region 5 with (go_at_call 7; go_loud (refine (HRR.out _ ⟨Vi, Vl, Vo, Vb, Vc, Vj, Vf, Va, Vs, Vt⟩ ⟨.slice AI ni cI, .slice AR nr cR⟩ (HIN.out.1.below (HALL.out _ HX.out).2.2.2.2.2.2) (HIN.out.2.below (HALL.out _ HX.out).2.2.2.2.2.2)).mono ?_; rintro e w3 ⟨hb, bA, bn, bc, rfl, zs, hdm⟩; have HDM := Lib.hid hdm; have HA3 := Lib.hid hb; clear hdm; have HXN := Lib.hid (bt HX.out (Nat.le_refl _) hb); clear HX hb c0 c1 c2 c3 c4 c5 c6 c7 c8 c9 c10 x0 x1 x2 e0 e1 e2 e3 e4 e5 e6 e7 e8 e9 e10 y0 y1 y2; have HX := HXN; clear HXN; obtain ⟨c0, c1, c2, c3, c4, c5, c6, c7, c8, c9, c10⟩ := rbox_of (HALL.out _ HX.out).1; obtain ⟨x0, x1, x2⟩ := trio_of (HALL.out _ HX.out).2.1; obtain ⟨e0, e1, e2, e3, e4, e5, e6, e7, e8, e9, e10⟩ := rbox_of (HALL.out _ HX.out).2.2.1; obtain ⟨y0, y1, y2⟩ := trio_of (HALL.out _ HX.out).2.2.2.1))
      have ha3 := bt HA2.out (Nat.le_refl _) HA3.out
      have hrl : RL wc w3 w1.heap.size w2.heap.size gm gm2 nr xs ys zs (.slice bA bn bc) ms 0 := by
        have hm1 := HMS.out.below ha3
        have hl1 : ∀ (j : Nat) (x : MV) (g : Nat), xs[j]? = some x → (x.s.ownBlock = some g ∨ x.b.ownBlock = some g) → wc.heap.size ≤ g ∧ g < w1.heap.size := fun j x g hx hg => by
          obtain ⟨m, hm⟩ : ∃ m, ms[j]? = some m := ⟨_, List.getElem?_eq_getElem (by rw [← HMS.out.len]; exact (List.getElem?_eq_some_iff.1 hx).1)⟩
          exact (HMS.out.at_ j x m hx hm).lt (by rcases hg with hg | hg; exact .inl hg; exact .inr (.inl hg))
        exact ⟨HMB.out.below ha3 HMB.out.lt, fun j x m _ hx hm => ⟨(hm1.at_ j x m hx hm).s, (hm1.at_ j x m hx hm).b⟩, HMS.out.apart, hl1, HG2.out, HA2.out.size, HMB2.out.below HA3.out HMB2.out.lt, HMS2.out.below HA3.out, HDM.out, HX.out⟩
      have hra := momRow_of (HMB.out.below ha3 HMB.out.lt) (HMS.out.below ha3) HML.out HNX.out
      have hsm := same_any w3 _ _ _ hra HDM.out.row
      have HSM := Lib.hid hsm
      have HXL : Hid (xs.length = nr) := Lib.hid (HMS.out.len.trans HML.out)
      have HRL := Lib.hid hrl
      clear hrl hra hsm ha3 HMB HMS HMB2 HMS2 HDM HA2 HA3 HG1 HG2
      have h00 : ((0 : Int) != 0) = false := by decide
      go_upto_region 7 with (go_at_call 8; go_loud (refine HSM.out.mono ?_; rintro e w4 ⟨rfl, hb⟩; have HRN := Lib.hid (HRL.out.on hb); clear HRL; have HRL := HRN; clear HRN; have HXN := Lib.hid (bt HX.out (Nat.le_refl _) hb); clear HX hb c0 c1 c2 c3 c4 c5 c6 c7 c8 c9 c10 x0 x1 x2 e0 e1 e2 e3 e4 e5 e6 e7 e8 e9 e10 y0 y1 y2; have HX := HXN; clear HXN; obtain ⟨c0, c1, c2, c3, c4, c5, c6, c7, c8, c9, c10⟩ := rbox_of (HALL.out _ HX.out).1; obtain ⟨x0, x1, x2⟩ := trio_of (HALL.out _ HX.out).2.1; obtain ⟨e0, e1, e2, e3, e4, e5, e6, e7, e8, e9, e10⟩ := rbox_of (HALL.out _ HX.out).2.2.1; obtain ⟨y0, y1, y2⟩ := trio_of (HALL.out _ HX.out).2.2.2.1))
      go_wp2
      go_loopg [13] nr (fun j iv wr => ∃ k : Nat, k ≤ nr ∧ iv = .int .i64 k ∧ j = nr - k ∧ RL wc wr w1.heap.size w2.heap.size gm gm2 nr xs ys zs (.slice bA bn bc) ms k)
      case atStart => exact ⟨0, Nat.zero_le _, rfl, rfl, HRL.out⟩
      case round =>
        obtain ⟨k, hk, rfl, hgk, hrl⟩ := hrel
        subst hgk
        clear HX HRL HSM c0 c1 c2 c3 c4 c5 c6 c7 c8 c9 c10 x0 x1 x2 e0 e1 e2 e3 e4 e5 e6 e7 e8 e9 e10 y0 y1 y2
        have HRL := Lib.hid hrl
        have HX := Lib.hid hrl.below
        clear hrl
        obtain ⟨c0, c1, c2, c3, c4, c5, c6, c7, c8, c9, c10⟩ := rbox_of (HALL.out _ HX.out).1
        obtain ⟨x0, x1, x2⟩ := trio_of (HALL.out _ HX.out).2.1
        obtain ⟨e0, e1, e2, e3, e4, e5, e6, e7, e8, e9, e10⟩ := rbox_of (HALL.out _ HX.out).2.2.1
        obtain ⟨y0, y1, y2⟩ := trio_of (HALL.out _ HX.out).2.2.2.1
        by_cases hlt : k < nr
        · obtain ⟨x, hx⟩ : ∃ x, xs[k]? = some x := ⟨_, List.getElem?_eq_getElem (by rw [HXL.out]; exact hlt)⟩
          obtain ⟨m2, hm2⟩ : ∃ m, ms[k]? = some m := ⟨_, List.getElem?_eq_getElem (by rw [HML.out]; exact hlt)⟩
          obtain ⟨os, ob⟩ := HRL.out.s k x m2 (Nat.le_refl _) hx hm2
          obtain ⟨z0, _, _, _⟩ := HRL.out.a.cells hx
          have HSP := Lib.hid (SpoilO_any wr wc.heap.size m2.st.length x.s m2.st rfl os)
          have HXM := Lib.hid (And.intro hx (And.intro hm2 (And.intro os ob)))
          have hk0 : (0 : Int) ≤ (k : Int) := by omega
          have hk1 : (k : Int) < (nr : Int) := by omega
          clear hx hm2 os ob
          go_upto_region 12 with (first
            | (go_at_call 9; go_loud (refine HSP.out.mono ?_; rintro e w5 ⟨rfl, hg5⟩; have HG5 := Lib.hid hg5; have a5 := HRL.out.a.far hg5 (HRL.out.na HXM.out.1 HXM.out.2.1); obtain ⟨_, _, z2, _⟩ := a5.cells HXM.out.1; have HSI := Lib.hid (SpoilInts_any w5 wc.heap.size _ x.b _ (-7) (own_other HXM.out.2.2.2 HXM.out.2.2.1 (by decide) hg5)); clear hg5 a5 HX c0 c1 c2 c3 c4 c5 c6 c7 c8 c9 c10 x0 x1 x2 e0 e1 e2 e3 e4 e5 e6 e7 e8 e9 e10 y0 y1 y2))
            | (go_at_call 10; go_loud (refine HSI.out.mono ?_; rintro e w6 ⟨rfl, hg6⟩; have HR6 := Lib.hid (HRL.out.spoil HXM.out.1 HXM.out.2.1 HG5.out hg6); clear hg6)))
          clear HSP HSI HXM HG5 z0 z2
          have hq3 : IntKind.i64.wrap ((k : Int) + 1) = (k : Int) + 1 := by simp [IntKind.wrap, IntKind.bits, IntKind.signed]; omega
          by_cases hl2 : k + 1 < nr
          · obtain ⟨x3, hx⟩ : ∃ x, xs[k + 1]? = some x := ⟨_, List.getElem?_eq_getElem (by rw [HXL.out]; exact hl2)⟩
            obtain ⟨m3, hm3⟩ : ∃ m, ms[k + 1]? = some m := ⟨_, List.getElem?_eq_getElem (by rw [HML.out]; exact hl2)⟩
            obtain ⟨AZ, cZ, eZ, hz1, hz2, hz3⟩ := HR6.out.z.row
            injection eZ with eZ1 eZ2 eZ3
            obtain ⟨gb, gbo, y3, eA, hma⟩ := hz3 (k + 1) m3 hm3
            rw [HML.out] at eZ2
            subst eZ1 eZ2 eZ3 eA
            have HCL : Hid (∀ wz, Below w6.heap.size w6 wz → (wz.cell? ⟨gm, (k + 1) * 4, none⟩ = some x3.s ∧ wz.cell? ⟨gm, (k + 1) * 4 + 2, none⟩ = some x3.b ∧ wz.cell? ⟨gb, gbo + (k + 1) * 4, none⟩ = some y3.s ∧ wz.cell? ⟨gb, gbo + (k + 1) * 4 + 2, none⟩ = some y3.b) ∧ RowE 1 encO wz x3.s m3.st ∧ RowE 1 encI wz x3.b m3.bads ∧ RowE 1 encO wz y3.s m3.st ∧ RowE 1 encI wz y3.b m3.bads) := Lib.hid (fun wz hb => by
              have h9 := HR6.out.on hb
              obtain ⟨z0, _, z2, _⟩ := h9.a.cells hx
              obtain ⟨os, ob⟩ := h9.s (k + 1) x3 m3 (Nat.le_refl _) hx hm3
              have hm9 := hma.below hb
              exact ⟨⟨z0, z2, hm9.c0, hm9.c2⟩, own_rowe lenO (by rw [flat_bools]; exact os), own_rowe lenI (by rw [flat_ints]; exact ob), hm9.s, hm9.b⟩)
            have HSO := Lib.hid (fun (wx : World) (v u : Value) (zs : List Bool) (hx : RowE 1 encO wx v zs) (hy : RowE 1 encO wx u zs) => (show Calls Try.prog 11 #[v, u] wx fun e w' => e = .returned (.bool true) ∧ Below wx.heap.size wx w' from by have := SameO_any wx v u zs zs hx hy; rwa [decide_eq_true (rfl : zs = zs)] at this))
            have HSI := Lib.hid (fun (wx : World) (v u : Value) (zs : List Int) (hx : RowE 1 encI wx v zs) (hy : RowE 1 encI wx u zs) => (show Calls Try.prog 12 #[v, u] wx fun e w' => e = .returned (.bool true) ∧ Below wx.heap.size wx w' from by have := SameInts_any wx v u zs zs hx hy; rwa [decide_eq_true (rfl : zs = zs)] at this))
            have hk2 : (k : Int) + 1 < (bn : Int) := by omega
            have hk3 : (0 : Int) ≤ (k : Int) + 1 := by omega
            have hk4 : ((k : Int) + 1).toNat = k + 1 := by omega
            clear hx hm3 hma hz1 hz2 hz3
            refine wp_region_quiet (C := fun wz => Below w6.heap.size w6 wz) (by kernel_rfl) (by kernel_rfl) (Below.refl w6.heap.size w6).drew ?_
            simp only
            repeat
              first
                | go_big_quiet_skip
                | (refine wpQuiet_step (fun K hK => ?_)
                   rw [if_pos (by rfl)]
                   unfold Oper.quiet
                   apply Exists.intro
                   refine And.intro (fun wx hWx => ?_) (hK _ ?_)
                   · obtain ⟨⟨z0, z2, z4, z6⟩, r0, r1, r2, r3⟩ := HCL.out wx hWx
                     first
                       | (go_simp; exact rfl)
                       | (go_simp; go_at_call 11; refine (HSO.out _ _ _ m3.st r0 r2).mono ?_; rintro e w' ⟨rfl, hb'⟩; exact ⟨rfl, bt hWx (Nat.le_refl _) hb'⟩)
                       | (go_simp; go_at_call 12; refine (HSI.out _ _ _ m3.bads r1 r3).mono ?_; rintro e w' ⟨rfl, hb'⟩; exact ⟨rfl, bt hWx (Nat.le_refl _) hb'⟩)
                   clear hK K
                   try simp only [Act.put, List.setIfInBounds_toArray, List.set_cons_zero, List.set_cons_succ])
            refine wpQuiet_nil ?_
            intro w7 hw7
            have HW7 := Lib.hid hw7
            clear hw7
            go_wp2
            go_roundg (bn - (k + 1))
            case measure => omega
            case rel => exact ⟨k + 1, by omega, by go_num, rfl, HR6.out.on HW7.out⟩
          · have hk2 : ¬ (k : Int) + 1 < (nr : Int) := by omega
            go_quiet (fail)
            go_wp2
            go_roundg (nr - (k + 1))
            case measure => omega
            case rel => first | exact ⟨k + 1, by omega, by go_num, rfl, HR6.out.on (below_drewN (Below.refl _ _) _)⟩ | ((repeat apply Exists.intro); exact ⟨⟨k + 1, by omega, by go_num, rfl, HR6.out.on (below_drewN (Below.refl _ _) _)⟩, rfl⟩)
        · have HSM := Lib.hid (same_any wr _ _ _ (momRow_of HRL.out.y HRL.out.ym HML.out HNX.out) HRL.out.z.row)
          go_wp2_with (first
            | (go_at_call 8; go_loud (refine HSM.out.mono ?_; rintro e w7 ⟨rfl, hb⟩; have HXN := Lib.hid (bt HX.out (Nat.le_refl _) hb); clear HX hb c0 c1 c2 c3 c4 c5 c6 c7 c8 c9 c10 x0 x1 x2 e0 e1 e2 e3 e4 e5 e6 e7 e8 e9 e10 y0 y1 y2; have HX := HXN; clear HXN; obtain ⟨c0, c1, c2, c3, c4, c5, c6, c7, c8, c9, c10⟩ := rbox_of (HALL.out _ HX.out).1; obtain ⟨x0, x1, x2⟩ := trio_of (HALL.out _ HX.out).2.1; obtain ⟨e0, e1, e2, e3, e4, e5, e6, e7, e8, e9, e10⟩ := rbox_of (HALL.out _ HX.out).2.2.1; obtain ⟨y0, y1, y2⟩ := trio_of (HALL.out _ HX.out).2.2.2.1))
            | (go_at_call 13; go_loud (obtain ⟨BL, hlx⟩ := (HALL.out _ HX.out).2.2.2.2.1; refine (HKEPT.out _ _ _ _ _ hlx (HIN.out.1.below (HALL.out _ HX.out).2.2.2.2.2.2)).mono ?_; rintro e w8 ⟨rfl, hb⟩; clear hlx; have HXN := Lib.hid (bt HX.out (Nat.le_refl _) hb); clear HX hb c0 c1 c2 c3 c4 c5 c6 c7 c8 c9 c10 x0 x1 x2 e0 e1 e2 e3 e4 e5 e6 e7 e8 e9 e10 y0 y1 y2; have HX := HXN; clear HXN; obtain ⟨c0, c1, c2, c3, c4, c5, c6, c7, c8, c9, c10⟩ := rbox_of (HALL.out _ HX.out).1; obtain ⟨x0, x1, x2⟩ := trio_of (HALL.out _ HX.out).2.1; obtain ⟨e0, e1, e2, e3, e4, e5, e6, e7, e8, e9, e10⟩ := rbox_of (HALL.out _ HX.out).2.2.1; obtain ⟨y0, y1, y2⟩ := trio_of (HALL.out _ HX.out).2.2.2.1))
            | (go_at_call 14; go_loud (refine (HSAME.out _ _ _ (HALL.out _ HX.out).2.2.2.2.2.1 (HIN.out.2.below (HALL.out _ HX.out).2.2.2.2.2.2)).mono ?_; rintro e w8 ⟨rfl, hb⟩; have HXN := Lib.hid (bt HX.out (Nat.le_refl _) hb); clear HX hb c0 c1 c2 c3 c4 c5 c6 c7 c8 c9 c10 x0 x1 x2 e0 e1 e2 e3 e4 e5 e6 e7 e8 e9 e10 y0 y1 y2; have HX := HXN; clear HXN; obtain ⟨c0, c1, c2, c3, c4, c5, c6, c7, c8, c9, c10⟩ := rbox_of (HALL.out _ HX.out).1; obtain ⟨x0, x1, x2⟩ := trio_of (HALL.out _ HX.out).2.1; obtain ⟨e0, e1, e2, e3, e4, e5, e6, e7, e8, e9, e10⟩ := rbox_of (HALL.out _ HX.out).2.2.1; obtain ⟨y0, y1, y2⟩ := trio_of (HALL.out _ HX.out).2.2.2.1))
            | (go_at_call 15; go_loud (refine (worksS_any _).mono ?_; rintro e w8 ⟨rfl, hb⟩; have HXN := Lib.hid (bt HX.out (Nat.le_refl _) hb); clear HX hb c0 c1 c2 c3 c4 c5 c6 c7 c8 c9 c10 x0 x1 x2 e0 e1 e2 e3 e4 e5 e6 e7 e8 e9 e10 y0 y1 y2; have HX := HXN; clear HXN; obtain ⟨c0, c1, c2, c3, c4, c5, c6, c7, c8, c9, c10⟩ := rbox_of (HALL.out _ HX.out).1; obtain ⟨x0, x1, x2⟩ := trio_of (HALL.out _ HX.out).2.1; obtain ⟨e0, e1, e2, e3, e4, e5, e6, e7, e8, e9, e10⟩ := rbox_of (HALL.out _ HX.out).2.2.1; obtain ⟨y0, y1, y2⟩ := trio_of (HALL.out _ HX.out).2.2.2.1)))
          go_ret
          exact ⟨rfl, (HALL.out _ HX.out).2.2.2.2.2.2⟩
    · have HMSR : Hid (rowMs C O t = []) := Lib.hid (by unfold rowMs; rw [if_neg hE])
      rw [HMSR.out] at HRR
      obtain ⟨E, hEE⟩ : ∃ E, runE C t = E := ⟨_, rfl⟩
      rw [hEE] at HRUN HRR hE
      have HE := Lib.hid hE
      have hee : (E != E) = false := by simp
      have HSM : Hid (∀ (wx : World), Calls Try.prog 8 #[.slice none 0 0, .slice none 0 0] wx fun e w' => e = .returned (.bool true) ∧ Below wx.heap.size wx w') := Lib.hid (fun wx => same_any wx _ _ [] (MomRow.nil wx none) (MomRow.nil wx none))
      clear hE hEE HMSR
      go_upto_region 3 with (go_at_call 6; go_loud (obtain ⟨BL, hlx⟩ := (HALL.out _ HX.out).2.2.2.2.1; refine (HRUN.out _ (⟨.slice A0 n0 k0, .slice A1 n1 k1, .slice A2 n2 k2, .slice A3 n3 k3, .slice A4 n4 k4, .slice A5 n5 k5, .slice A6 n6 k6, .slice A7 n7 k7, .slice A8 n8 k8, .slice A9 n9 k9⟩ : CV) ⟨.slice BI nj dI, .slice BR nr dR⟩ hlx.in_ (HALL.out _ HX.out).2.2.2.2.2.1).mono ?_; rintro e w1 ⟨hb, v, rfl, hno, _⟩; obtain rfl := hno HE.out; clear hno hlx; have HXN := Lib.hid (bt HX.out (Nat.le_refl _) hb); clear HX hb c0 c1 c2 c3 c4 c5 c6 c7 c8 c9 c10 x0 x1 x2 e0 e1 e2 e3 e4 e5 e6 e7 e8 e9 e10 y0 y1 y2; have HX := HXN; clear HXN; obtain ⟨c0, c1, c2, c3, c4, c5, c6, c7, c8, c9, c10⟩ := rbox_of (HALL.out _ HX.out).1; obtain ⟨x0, x1, x2⟩ := trio_of (HALL.out _ HX.out).2.1; obtain ⟨e0, e1, e2, e3, e4, e5, e6, e7, e8, e9, e10⟩ := rbox_of (HALL.out _ HX.out).2.2.1; obtain ⟨y0, y1, y2⟩ := trio_of (HALL.out _ HX.out).2.2.2.1))
      go_upto_region 4 with (go_at_call 6; go_loud (obtain ⟨BL, hlx⟩ := (HALL.out _ HX.out).2.2.2.2.1; refine (HRUN.out _ (⟨.slice A0 n0 k0, .slice A1 n1 k1, .slice A2 n2 k2, .slice A3 n3 k3, .slice A4 n4 k4, .slice A5 n5 k5, .slice A6 n6 k6, .slice A7 n7 k7, .slice A8 n8 k8, .slice A9 n9 k9⟩ : CV) ⟨.slice BI nj dI, .slice BR nr dR⟩ hlx.in_ (HALL.out _ HX.out).2.2.2.2.2.1).mono ?_; rintro e w2 ⟨hb, v, rfl, hno, _⟩; obtain rfl := hno HE.out; clear hno hlx; have HXN := Lib.hid (bt HX.out (Nat.le_refl _) hb); clear HX hb c0 c1 c2 c3 c4 c5 c6 c7 c8 c9 c10 x0 x1 x2 e0 e1 e2 e3 e4 e5 e6 e7 e8 e9 e10 y0 y1 y2; have HX := HXN; clear HXN; obtain ⟨c0, c1, c2, c3, c4, c5, c6, c7, c8, c9, c10⟩ := rbox_of (HALL.out _ HX.out).1; obtain ⟨x0, x1, x2⟩ := trio_of (HALL.out _ HX.out).2.1; obtain ⟨e0, e1, e2, e3, e4, e5, e6, e7, e8, e9, e10⟩ := rbox_of (HALL.out _ HX.out).2.2.1; obtain ⟨y0, y1, y2⟩ := trio_of (HALL.out _ HX.out).2.2.2.1))
      go_upto_region 5 with (go_at_call 7; go_loud (refine (HRR.out _ ⟨Vi, Vl, Vo, Vb, Vc, Vj, Vf, Va, Vs, Vt⟩ ⟨.slice AI ni cI, .slice AR nr cR⟩ (HIN.out.1.below (HALL.out _ HX.out).2.2.2.2.2.2) (HIN.out.2.below (HALL.out _ HX.out).2.2.2.2.2.2)).mono ?_; rintro e w3 ⟨hb, bA, bn, bc, rfl, zs, hdm⟩; have HDM := Lib.hid hdm.row; clear hdm; have HXN := Lib.hid (bt HX.out (Nat.le_refl _) hb); clear HX hb c0 c1 c2 c3 c4 c5 c6 c7 c8 c9 c10 x0 x1 x2 e0 e1 e2 e3 e4 e5 e6 e7 e8 e9 e10 y0 y1 y2; have HX := HXN; clear HXN; obtain ⟨c0, c1, c2, c3, c4, c5, c6, c7, c8, c9, c10⟩ := rbox_of (HALL.out _ HX.out).1; obtain ⟨x0, x1, x2⟩ := trio_of (HALL.out _ HX.out).2.1; obtain ⟨e0, e1, e2, e3, e4, e5, e6, e7, e8, e9, e10⟩ := rbox_of (HALL.out _ HX.out).2.2.1; obtain ⟨y0, y1, y2⟩ := trio_of (HALL.out _ HX.out).2.2.2.1))
      have hsm := same_any w3 (.slice none 0 0) _ [] (MomRow.nil w3 none) HDM.out
      have HSM3 := Lib.hid hsm
      clear hsm
      go_upto_region 7 with (go_at_call 8; go_loud (refine HSM3.out.mono ?_; rintro e w4 ⟨rfl, hb⟩; have HD4 := Lib.hid (HDM.out.below hb); clear HDM HSM3; have HXN := Lib.hid (bt HX.out (Nat.le_refl _) hb); clear HX hb c0 c1 c2 c3 c4 c5 c6 c7 c8 c9 c10 x0 x1 x2 e0 e1 e2 e3 e4 e5 e6 e7 e8 e9 e10 y0 y1 y2; have HX := HXN; clear HXN; obtain ⟨c0, c1, c2, c3, c4, c5, c6, c7, c8, c9, c10⟩ := rbox_of (HALL.out _ HX.out).1; obtain ⟨x0, x1, x2⟩ := trio_of (HALL.out _ HX.out).2.1; obtain ⟨e0, e1, e2, e3, e4, e5, e6, e7, e8, e9, e10⟩ := rbox_of (HALL.out _ HX.out).2.2.1; obtain ⟨y0, y1, y2⟩ := trio_of (HALL.out _ HX.out).2.2.2.1))
      go_wp2
      go_loopg [13] 0 (fun j iv wr => iv = .int .i64 0 ∧ j = 0 ∧ Below wc.heap.size wc wr ∧ MomRow wr (.slice bA bn bc) [])
      case atStart => exact ⟨rfl, rfl, HX.out, HD4.out⟩
      case round =>
        obtain ⟨rfl, hgk, hbw, hmr⟩ := hrel
        subst hgk
        clear HX HSM HD4 c0 c1 c2 c3 c4 c5 c6 c7 c8 c9 c10 x0 x1 x2 e0 e1 e2 e3 e4 e5 e6 e7 e8 e9 e10 y0 y1 y2
        have HX := Lib.hid hbw
        have HSM : Hid (∀ (_ : Nat), Calls Try.prog 8 #[.slice none 0 0, .slice bA bn bc] wr fun e w' => e = .returned (.bool true) ∧ Below wr.heap.size wr w') := Lib.hid (fun _ => same_any wr _ _ [] (MomRow.nil wr none) hmr)
        clear hbw hmr
        obtain ⟨c0, c1, c2, c3, c4, c5, c6, c7, c8, c9, c10⟩ := rbox_of (HALL.out _ HX.out).1
        obtain ⟨x0, x1, x2⟩ := trio_of (HALL.out _ HX.out).2.1
        obtain ⟨e0, e1, e2, e3, e4, e5, e6, e7, e8, e9, e10⟩ := rbox_of (HALL.out _ HX.out).2.2.1
        obtain ⟨y0, y1, y2⟩ := trio_of (HALL.out _ HX.out).2.2.2.1
        go_wp2_with (first
            | (go_at_call 8; go_loud (refine (HSM.out 0).mono ?_; rintro e w7 ⟨rfl, hb⟩; have HXN := Lib.hid (bt HX.out (Nat.le_refl _) hb); clear HX hb c0 c1 c2 c3 c4 c5 c6 c7 c8 c9 c10 x0 x1 x2 e0 e1 e2 e3 e4 e5 e6 e7 e8 e9 e10 y0 y1 y2; have HX := HXN; clear HXN; obtain ⟨c0, c1, c2, c3, c4, c5, c6, c7, c8, c9, c10⟩ := rbox_of (HALL.out _ HX.out).1; obtain ⟨x0, x1, x2⟩ := trio_of (HALL.out _ HX.out).2.1; obtain ⟨e0, e1, e2, e3, e4, e5, e6, e7, e8, e9, e10⟩ := rbox_of (HALL.out _ HX.out).2.2.1; obtain ⟨y0, y1, y2⟩ := trio_of (HALL.out _ HX.out).2.2.2.1))
            | (go_at_call 13; go_loud (obtain ⟨BL, hlx⟩ := (HALL.out _ HX.out).2.2.2.2.1; refine (HKEPT.out _ _ _ _ _ hlx (HIN.out.1.below (HALL.out _ HX.out).2.2.2.2.2.2)).mono ?_; rintro e w8 ⟨rfl, hb⟩; clear hlx; have HXN := Lib.hid (bt HX.out (Nat.le_refl _) hb); clear HX hb c0 c1 c2 c3 c4 c5 c6 c7 c8 c9 c10 x0 x1 x2 e0 e1 e2 e3 e4 e5 e6 e7 e8 e9 e10 y0 y1 y2; have HX := HXN; clear HXN; obtain ⟨c0, c1, c2, c3, c4, c5, c6, c7, c8, c9, c10⟩ := rbox_of (HALL.out _ HX.out).1; obtain ⟨x0, x1, x2⟩ := trio_of (HALL.out _ HX.out).2.1; obtain ⟨e0, e1, e2, e3, e4, e5, e6, e7, e8, e9, e10⟩ := rbox_of (HALL.out _ HX.out).2.2.1; obtain ⟨y0, y1, y2⟩ := trio_of (HALL.out _ HX.out).2.2.2.1))
            | (go_at_call 14; go_loud (refine (HSAME.out _ _ _ (HALL.out _ HX.out).2.2.2.2.2.1 (HIN.out.2.below (HALL.out _ HX.out).2.2.2.2.2.2)).mono ?_; rintro e w8 ⟨rfl, hb⟩; have HXN := Lib.hid (bt HX.out (Nat.le_refl _) hb); clear HX hb c0 c1 c2 c3 c4 c5 c6 c7 c8 c9 c10 x0 x1 x2 e0 e1 e2 e3 e4 e5 e6 e7 e8 e9 e10 y0 y1 y2; have HX := HXN; clear HXN; obtain ⟨c0, c1, c2, c3, c4, c5, c6, c7, c8, c9, c10⟩ := rbox_of (HALL.out _ HX.out).1; obtain ⟨x0, x1, x2⟩ := trio_of (HALL.out _ HX.out).2.1; obtain ⟨e0, e1, e2, e3, e4, e5, e6, e7, e8, e9, e10⟩ := rbox_of (HALL.out _ HX.out).2.2.1; obtain ⟨y0, y1, y2⟩ := trio_of (HALL.out _ HX.out).2.2.2.1))
            | (go_at_call 15; go_loud (refine (worksS_any _).mono ?_; rintro e w8 ⟨rfl, hb⟩; have HXN := Lib.hid (bt HX.out (Nat.le_refl _) hb); clear HX hb c0 c1 c2 c3 c4 c5 c6 c7 c8 c9 c10 x0 x1 x2 e0 e1 e2 e3 e4 e5 e6 e7 e8 e9 e10 y0 y1 y2; have HX := HXN; clear HXN; obtain ⟨c0, c1, c2, c3, c4, c5, c6, c7, c8, c9, c10⟩ := rbox_of (HALL.out _ HX.out).1; obtain ⟨x0, x1, x2⟩ := trio_of (HALL.out _ HX.out).2.1; obtain ⟨e0, e1, e2, e3, e4, e5, e6, e7, e8, e9, e10⟩ := rbox_of (HALL.out _ HX.out).2.2.1; obtain ⟨y0, y1, y2⟩ := trio_of (HALL.out _ HX.out).2.2.2.1)))
        go_ret
        exact ⟨rfl, (HALL.out _ HX.out).2.2.2.2.2.2⟩
end Go.Proofs.Ytfbnhkndlohalaa
