/- SpoilCnf: a formula that was handed out is written over: nothing but its own blocks turns. -/
import Derived.Test.YtdodhbfplglbkaaEncN
import Derived.Test.YtdodhbfplglbkaaConO
import Derived.Test.YtdodhbfplglbkaaSameD
namespace Go.Proofs.Ytdodhbfplglbkaa
open Go.RowKit

def fitL (C : Circ) (l : Int) : Int := if (checkR C).2 ≠ 0 then (checkR C).2 else if litK C l = true then 0 else 1
def litF (C : Circ) (l : Int) : Int := if fitL C l = 0 then litC l else 0
theorem fitL_lit {C : Circ} {l : Int} (h : fitL C l = 0) : (checkR C).2 = 0 ∧ 0 ≤ l ∧ l ≤ 2 * C.max + 1 := by
  unfold fitL at h
  split at h
  · contradiction
  · split at h
    · rename_i h1 h2
      unfold litK at h2
      simp only [Bool.and_eq_true, decide_eq_true_eq] at h2
      exact ⟨by omega, h2.1, h2.2⟩
    · cases h

theorem blk_ownR {w : World} {g B n k : Nat} {t : TypeId} {cs : Array Value} (h : Blk w g t cs) (hB : B ≤ g) (hl : cs.size = n * k) (hm : n ≤ maxLen) : w.ownsRow B t k (.slice (some ⟨g, 0, none⟩) n n) n cs.toList := by
  refine ⟨by simpa using hl, .inr ⟨g, n, cs, rfl, hB, h, Nat.le_refl _, hm, hl, ?_⟩⟩
  rw [List.take_of_length_le (by simp [hl])]
/-- Clauses in a row of one's own, each in a row of its own. -/
structure DRow (w : World) (B : Nat) (v : Value) (us : List Value) (F : List (List Int)) : Prop where
  ul : us.length = F.length
  own : w.ownsRow B 81 1 v us.length us
  each : ∀ (i : Nat) (u : Value) (zs : List Int), us[i]? = some u → F[i]? = some zs → w.ownsRow B 3 1 u zs.length (zs.flatMap encI)
theorem DRow.below {w w' : World} {B : Nat} {v : Value} {us : List Value} {F : List (List Int)} (h : DRow w B v us F) (hb : Below w.heap.size w w') : DRow w' B v us F :=
  ⟨h.ul, own_below h.own hb, fun i u zs hu hz => own_below (h.each i u zs hu hz) hb⟩
theorem DRow.base {w : World} {B B' : Nat} {v : Value} {us : List Value} {F : List (List Int)} (h : DRow w B v us F) (hB : B' ≤ B) : DRow w B' v us F :=
  ⟨h.ul, own_le h.own hB, fun i u zs hu hz => own_le (h.each i u zs hu hz) hB⟩
theorem DRow.lists {w : World} {B : Nat} {v : Value} {us : List Value} {F : List (List Int)} (h : DRow w B v us F) : Lists w v F :=
  ⟨us, own_rowe lenV (by rw [flat_vals]; exact h.own), h.ul, fun i u zs hu hz => own_rowe lenI (h.each i u zs hu hz)⟩
theorem DRow.far {w w' : World} {B g : Nat} {t : TypeId} {cs : Array Value} {v : Value} {us : List Value} {F : List (List Int)} (h : DRow w B v us F) (hg : Blk w g t cs) (h1 : 81 ≠ t) (h2 : 3 ≠ t) (hk : ∀ k, k < w.heap.size → k ≠ g → w'.heap[k]? = w.heap[k]?) : DRow w' B v us F :=
  ⟨h.ul, own_of_block h.own fun k hv => hk k (h.own.lt k hv).2 (fun e => own_blk_ne h.own hg h1 (by rw [← e]; exact hv)),
    fun i u zs hu hz => own_of_block (h.each i u zs hu hz) fun k hv => hk k ((h.each i u zs hu hz).lt k hv).2 (fun e => own_blk_ne (h.each i u zs hu hz) hg h2 (by rw [← e]; exact hv))⟩
theorem DRow.app {w w1 w2 : World} {B : Nat} {v v2 : Value} {us us2 : List Value} {F F2 : List (List Int)} (h : DRow w B v us F) (hb : Below w.heap.size w w1) (hBw : B ≤ w.heap.size) (hl : us2.length = F2.length)
    (hu : ∀ (i : Nat) (u : Value) (zs : List Int), us2[i]? = some u → F2[i]? = some zs → w1.ownsRow w.heap.size 3 1 u zs.length (zs.flatMap encI)) (hg : w1.grownBy w2 v.ownBlock) (ho : w2.ownsRow B 81 1 v2 (us.length + us2.length) (us ++ us2)) : DRow w2 B v2 (us ++ us2) (F ++ F2) := by
  have hown1 := own_below h.own hb
  have keep : ∀ {u' : Value} {n : Nat} {ys : List Value}, w1.ownsRow B 3 1 u' n ys → w2.ownsRow B 3 1 u' n ys := fun hh =>
    own_of_block hh fun k hk => hg.block k (hh.lt k hk).2 (fun e => by
      rcases hown1.2 with ⟨hv, _⟩ | ⟨g, cap, cur, hv, _, hgg, _⟩
      · rw [hv] at e; cases e
      · rw [hv] at e
        have e2 : k = g := by simpa [Value.ownBlock] using e
        exact own_blk_ne hh hgg (by decide) (by rw [hk, e2]))
  have hul := h.ul
  refine ⟨by simp; omega, by simpa using ho, fun i u' zs' hu' hz' => ?_⟩
  by_cases hi : i < us.length
  · rw [List.getElem?_append_left hi] at hu'
    rw [List.getElem?_append_left (by omega)] at hz'
    exact keep (own_below (h.each i u' zs' hu' hz') hb)
  · rw [List.getElem?_append_right (by omega)] at hu'
    rw [List.getElem?_append_right (by omega), ← hul] at hz'
    exact keep (own_le (hu _ u' zs' hu' hz') hBw)

set_option maxHeartbeats 1000000 in
set_option maxRecDepth 100000 in
theorem eLit_any (w : World) (V : CV) (C : Circ) (l : Int) (h : C.In w V) (ok : C.Ok) :
    Calls Try.prog 13 #[V.val C.max, .int .i64 l] w fun e w' => e = .returned (.tuple #[.int .i64 (litF C l), .int .i64 (fitL C l)]) ∧ Below w.heap.size w w' := by
  obtain ⟨W0, hW0⟩ : ∃ W0, w.alloc (.cells (V.cells C.max) 29) = W0 := ⟨_, rfl⟩
  have HB0 : Hid (Below w.heap.size w W0) := Lib.hid (by rw [← hW0]; exact (Below.refl w.heap.size w).alloc (Nat.le_refl _) _)
  have HX0 : Hid (Blk W0 w.heap.size 29 (V.cells C.max)) := Lib.hid (by rw [← hW0]; exact Blk.new w _ _)
  have HCK := Lib.hid (Check_any W0 V C (h.below HB0.out) ok)
  have HW0 := Lib.hid hW0
  have HBX : Hid (W0.heap[w.heap.size]? = some (.cells (V.cells C.max) 29 (0, 0))) := Lib.hid HX0.out
  obtain ⟨a, r, hrr⟩ : ∃ a r, checkR C = (a, r) := ⟨_, _, rfl⟩
  have HRR : Hid ((checkR C).2 = r) := Lib.hid (by rw [hrr])
  rw [hrr] at HCK
  clear hW0 h ok
  by_cases h0 : r = 0
  · subst h0
    obtain ⟨m, hm⟩ : ∃ m : Nat, C.max = (m : Int) := ⟨C.max.toNat, by have := (right_of HRR.out).m0; omega⟩
    have hm1 : m ≤ 16384 := by have := (right_of HRR.out).m1; omega
    have hk : litK C l = (decide (0 ≤ l) && decide (l ≤ 2 * (m : Int) + 1)) := by unfold litK; rw [hm]
    rw [hm] at HX0 HBX HCK HW0 ⊢
    by_cases hl : 0 ≤ l ∧ l ≤ 2 * (m : Int) + 1
    · have e0 : fitL C l = 0 := by unfold fitL; rw [if_neg (by rw [HRR.out]; simp), if_pos (by rw [hk]; simp [hl])]
      have e1 : litF C l = litC l := if_pos e0
      have hkt : (decide (0 ≤ l) && decide (l ≤ 2 * (m : Int) + 1)) = true := by simp [hl]
      have HIL := Lib.hid (fun wx => isLiteralE_any wx V m (by omega) l)
      rw [hkt] at HIL
      have HLI := Lib.hid (fun wx => literal_any wx l hl.1 (by omega))
      rw [e0, e1]
      clear e0 e1 hk hkt hm hrr
      go_enter Try.func13, Try.ntmps13
      go_upto_region 1 with (fail)
      rw [HW0.out]
      go_wp2_with (first
        | (refine wpList_load_row rfl 29 (.tmp 2) rfl w.heap.size rfl 29 (V.cells m) (0, 0) _ HBX.out Try.underlying29 rfl (by kernel_rfl) ?_)
        | (go_at_call 44; refine HCK.out.mono ?_; rintro e w1 ⟨rfl, hb1⟩; have HB1 := Lib.hid hb1; have HBX1 : Hid (w1.heap[w.heap.size]? = some (.cells (V.cells m) 29 (0, 0))) := Lib.hid (HX0.out.below hb1 HX0.out.lt); clear hb1 HBX; have HBX := HBX1; clear HBX1)
        | (go_at_call 48; refine (HIL.out _).mono ?_; rintro e w2 ⟨hb2, rfl⟩; have HB2 := Lib.hid hb2; clear hb2)
        | (go_at_call 49; refine (HLI.out _).mono ?_; rintro e w3 ⟨rfl, rfl⟩))
      go_ret2
      exact ⟨rfl, bt (bt HB0.out (Nat.le_refl _) HB1.out) (Nat.le_refl _) HB2.out⟩
    · have hkf : (decide (0 ≤ l) && decide (l ≤ 2 * (m : Int) + 1)) = false := by
        rw [Bool.and_eq_false_iff, decide_eq_false_iff_not, decide_eq_false_iff_not]
        omega
      have e0 : fitL C l = 1 := by unfold fitL; rw [if_neg (by rw [HRR.out]; simp), if_neg (by rw [hk, hkf]; simp)]
      have e1 : litF C l = 0 := if_neg (by rw [e0]; decide)
      have HIL := Lib.hid (fun wx => isLiteralE_any wx V m (by omega) l)
      rw [hkf] at HIL
      rw [e0, e1]
      clear e0 e1 hk hkf hm hrr hl
      go_enter Try.func13, Try.ntmps13
      go_upto_region 1 with (fail)
      rw [HW0.out]
      go_wp2_with (first
        | (refine wpList_load_row rfl 29 (.tmp 2) rfl w.heap.size rfl 29 (V.cells m) (0, 0) _ HBX.out Try.underlying29 rfl (by kernel_rfl) ?_)
        | (go_at_call 44; refine HCK.out.mono ?_; rintro e w1 ⟨rfl, hb1⟩; have HB1 := Lib.hid hb1; have HBX1 : Hid (w1.heap[w.heap.size]? = some (.cells (V.cells m) 29 (0, 0))) := Lib.hid (HX0.out.below hb1 HX0.out.lt); clear hb1 HBX; have HBX := HBX1; clear HBX1)
        | (go_at_call 48; refine (HIL.out _).mono ?_; rintro e w2 ⟨hb2, rfl⟩; have HB2 := Lib.hid hb2; clear hb2))
      go_ret2
      exact ⟨rfl, bt (bt HB0.out (Nat.le_refl _) HB1.out) (Nat.le_refl _) HB2.out⟩
  · have hq : (r != 0) = true := by simpa using h0
    have e0 : fitL C l = r := by unfold fitL; rw [if_pos (by rw [HRR.out]; exact h0)]; exact HRR.out
    have e1 : litF C l = 0 := if_neg (by rw [e0]; exact h0)
    rw [e0, e1]
    clear e0 e1 hrr h0
    go_enter Try.func13, Try.ntmps13
    go_upto_region 1 with (fail)
    rw [HW0.out]
    go_wp2_with (first
      | (refine wpList_load_row rfl 29 (.tmp 2) rfl w.heap.size rfl 29 (V.cells C.max) (0, 0) _ HBX.out Try.underlying29 rfl (by kernel_rfl) ?_)
      | (go_at_call 44; refine HCK.out.mono ?_; rintro e w1 ⟨rfl, hb1⟩; have HB1 := Lib.hid hb1; clear hb1))
    go_ret2
    exact ⟨rfl, bt HB0.out (Nat.le_refl _) HB1.out⟩

theorem threeR {w : World} {B : Nat} {a b c : Value} {x y z : List Int} (h1 : w.ownsRow B 3 1 a x.length (x.flatMap encI)) (h2 : w.ownsRow B 3 1 b y.length (y.flatMap encI)) (h3 : w.ownsRow B 3 1 c z.length (z.flatMap encI)) :
    ∀ (i : Nat) (u : Value) (zs : List Int), [a, b, c][i]? = some u → [x, y, z][i]? = some zs → w.ownsRow B 3 1 u zs.length (zs.flatMap encI) := fun i u zs hu hz => by
  match i, hu, hz with
  | 0, hu, hz => injection hu with hu; injection hz with hz; subst hu hz; exact h1
  | 1, hu, hz => injection hu with hu; injection hz with hz; subst hu hz; exact h2
  | 2, hu, hz => injection hu with hu; injection hz with hz; subst hu hz; exact h3
  | i + 3, hu, _ => simp at hu
theorem reads_blkR {w : World} {g : Nat} {t : TypeId} {a b c : Value} (h : Blk w g t #[a, b, c]) : Reads w w.heap.size 1 (some ⟨g, 0, none⟩) 3 [a, b, c] := by
  refine ⟨rfl, fun _ => ⟨_, rfl, h.lt, fun j u hu => ?_⟩⟩
  rw [add_none, Nat.zero_add, cell_of_row _ _ _ #[a, b, c] t (0, 0) h]
  simpa using hu
end Go.Proofs.Ytdodhbfplglbkaa

namespace Go.Proofs.Ytdodhbfplglbkaa
open Go.RowKit

end Go.Proofs.Ytdodhbfplglbkaa

namespace Go.Proofs.Ytdodhbfplglbkaa
open Go.RowKit

set_option maxHeartbeats 2000000 in
set_option maxRecDepth 100000 in
theorem SameClausesE_any (w : World) (v u : Value) (xs ys : List (List Int)) (h : Lists w v xs) (h' : Lists w u ys) : Calls Try.prog 32 #[v, u] w fun e w' => e = .returned (.bool (decide (xs = ys))) ∧ Below w.heap.size w w' := by
  obtain ⟨A, c, rfl, hlen, hp⟩ := h.at_
  obtain ⟨A', c', rfl, hlen', hq⟩ := h'.at_
  unfold maxLen at hlen hlen'
  generalize hr : decide (xs = ys) = r
  have HR := Lib.hid hr
  have HP := Lib.hid hp
  have HQ := Lib.hid hq
  clear hr hp hq h h'
  by_cases hne : xs.length = ys.length
  · rw [← hne]
    have HM := Lib.hid hne
    clear hne hlen'
    generalize hn : xs.length = n at *
    have HN := Lib.hid hn
    clear hn
    go_enter Try.func32, Try.ntmps32
    go_wp2
    go_loopw [5] (fun i wr => ∃ k : Nat, k ≤ n ∧ i = .int .i64 k ∧ xs.take k = ys.take k ∧ Below w.heap.size w wr) (fun i _ => n - (intOf i).toNat)
    case atStart => exact ⟨0, Nat.zero_le _, rfl, by simp, Below.refl _ _⟩
    case round =>
      obtain ⟨k, hk, rfl, hall, hbw⟩ := hrel
      have HA := Lib.hid hall
      have HBW := Lib.hid hbw
      clear hall hbw
      by_cases hlt : k < n
      · have hx := List.getElem?_eq_getElem (l := xs) (i := k) (by rw [HN.out]; exact hlt)
        have hy := List.getElem?_eq_getElem (l := ys) (i := k) (by rw [← HM.out]; exact hlt)
        generalize xs[k]'(by rw [HN.out]; exact hlt) = x at hx
        generalize ys[k]'(by rw [← HM.out]; exact hlt) = y at hy
        obtain ⟨b, off, u1, rfl, hb, hcell, hrow⟩ := HP.out k x hx
        obtain ⟨b', off', u2, rfl, hb', hcell', hrow'⟩ := HQ.out k y hy
        have HX := Lib.hid hx
        have HY := Lib.hid hy
        have HC1 := Lib.hid hcell
        have HC2 := Lib.hid hcell'
        have HR1 := Lib.hid hrow
        have HR2 := Lib.hid hrow'
        clear hx hy hcell hcell' hrow hrow'
        cases he : decide (x = y)
        · have hr : r = false := by
            rw [← HR.out, decide_eq_false_iff_not]
            intro e
            subst e
            have e2 := HX.out.symm.trans HY.out
            rw [Option.some.injEq] at e2
            rw [decide_eq_true e2] at he
            cases he
          subst hr
          have HE := Lib.hid he
          clear he HX HY
          go_wp2
          refine wp_region_quiet (C := fun w' => Below w.heap.size w w') (by kernel_rfl) (by kernel_rfl) (below_drewN HBW.out 1) ?_
          simp only
          repeat
            first
              | go_big_quiet_skip
              | (refine wpQuiet_step (fun K hK => ?_)
                 rw [if_pos (by rfl)]
                 unfold Oper.quiet
                 apply Exists.intro
                 refine And.intro (fun wx hWx => ?_) (hK _ ?_)
                 · first
                     | (go_simp; exact rfl)
                     | (have q1 := (Below.cell hWx (p := ⟨b, off + k, none⟩) hb).trans HC1.out; go_simp; exact rfl)
                     | (have q2 := (Below.cell hWx (p := ⟨b', off' + k, none⟩) hb').trans HC2.out; go_simp; exact rfl)
                     | (go_simp; refine (SameInts_any wx u1 u2 x y (HR1.out.below hWx) (HR2.out.below hWx)).mono ?_; rw [HE.out]; rintro e w' ⟨rfl, hb2⟩; exact ⟨rfl, bt hWx (Nat.le_refl _) hb2⟩)
                 clear hK K
                 try simp only [Act.put, List.setIfInBounds_toArray, List.set_cons_zero, List.set_cons_succ])
          refine wpQuiet_nil ?_
          intro w5 hW5
          have HW5 := Lib.hid hW5
          clear hW5
          go_wp2
          go_ret
          exact ⟨rfl, HW5.out⟩
        · have HE := Lib.hid he
          have hxy : x = y := by simpa using he
          have HXY := Lib.hid hxy
          clear he hxy
          go_wp2
          refine wp_region_quiet (C := fun w' => Below w.heap.size w w') (by kernel_rfl) (by kernel_rfl) (below_drewN HBW.out 1) ?_
          simp only
          repeat
            first
              | go_big_quiet_skip
              | (refine wpQuiet_step (fun K hK => ?_)
                 rw [if_pos (by rfl)]
                 unfold Oper.quiet
                 apply Exists.intro
                 refine And.intro (fun wx hWx => ?_) (hK _ ?_)
                 · first
                     | (go_simp; exact rfl)
                     | (have q1 := (Below.cell hWx (p := ⟨b, off + k, none⟩) hb).trans HC1.out; go_simp; exact rfl)
                     | (have q2 := (Below.cell hWx (p := ⟨b', off' + k, none⟩) hb').trans HC2.out; go_simp; exact rfl)
                     | (go_simp; refine (SameInts_any wx u1 u2 x y (HR1.out.below hWx) (HR2.out.below hWx)).mono ?_; rw [HE.out]; rintro e w' ⟨rfl, hb2⟩; exact ⟨rfl, bt hWx (Nat.le_refl _) hb2⟩)
                 clear hK K
                 try simp only [Act.put, List.setIfInBounds_toArray, List.set_cons_zero, List.set_cons_succ])
          refine wpQuiet_nil ?_
          intro w5 hW5
          have HW5 := Lib.hid hW5
          clear hW5
          go_wp2
          go_roundw
          case rel => exact ⟨k + 1, by omega, by go_num, take_eq_succ' HX.out (by rw [HXY.out]; exact HY.out) HA.out, HW5.out⟩
          case measure => simp [intOf]; omega
      · have : k = n := by omega
        subst this
        go_wp2
        go_ret
        refine ⟨ret_bool ?_, HBW.out⟩
        rw [← HR.out, eq_comm, decide_eq_true_iff]
        exact take_all HN.out (HM.out.symm) HA.out
  · have hr : r = false := by
      rw [← HR.out, decide_eq_false_iff_not]
      intro e; exact hne (by rw [e])
    subst hr
    have hd : ((xs.length : Int) == (ys.length : Int)) = false := by simpa using fun e => hne (by exact_mod_cast e)
    have hd2 : ((xs.length : Int) != (ys.length : Int)) = true := by simpa using fun e => hne (by exact_mod_cast e)
    have HR := Lib.hid hne
    clear hne
    go_enter Try.func32, Try.ntmps32
    go_wp2
    go_ret
    exact ⟨rfl, Below.refl _ _⟩
end Go.Proofs.Ytdodhbfplglbkaa

namespace Go.Proofs.Ytdodhbfplglbkaa
open Go.RowKit

set_option maxHeartbeats 2000000 in
set_option maxRecDepth 100000 in
theorem SameCnf_any (w : World) (v u : Value) (xs ys : List (List Int)) (m n : Int) (h : Lists w v xs) (h' : Lists w u ys) : Calls Try.prog 17 #[.agg #[.int .i64 m, v], .agg #[.int .i64 n, u]] w fun e w' => e = .returned (.bool (decide (m = n) && decide (xs = ys))) ∧ Below w.heap.size w w' := by
  obtain ⟨W0, hW0⟩ : ∃ W0, (w.alloc (.cells #[.int .i64 m, v] 34)).alloc (.cells #[.int .i64 n, u] 34) = W0 := ⟨_, rfl⟩
  have HB0 : Hid (Below w.heap.size w W0) := Lib.hid (by rw [← hW0]; exact ((Below.refl w.heap.size w).alloc (Nat.le_refl _) _).alloc (by simp) _)
  have ha : Blk W0 w.heap.size 34 #[.int .i64 m, v] := by rw [← hW0]; exact (Blk.new w _ _).alloc _
  have hb : Blk W0 (w.heap.size + 1) 34 #[.int .i64 n, u] := by
    rw [← hW0]
    have := Blk.new (w.alloc (.cells #[.int .i64 m, v] 34)) 34 #[.int .i64 n, u]
    simpa using this
  have HSL := Lib.hid (SameClausesE_any W0 v u xs ys (h.below HB0.out) (h'.below HB0.out))
  have HW0 := Lib.hid hW0
  have a0 := ha.cell 0
  have a1 := ha.cell 1
  have b0 := hb.cell 0
  have b1 := hb.cell 1
  simp only [List.getElem?_toArray, List.getElem?_cons_zero, List.getElem?_cons_succ] at a0 a1 b0 b1
  obtain ⟨A1, n1, c1, e1⟩ := sl_formL h
  obtain ⟨A2, n2, c2, e2⟩ := sl_formL h'
  subst e1 e2
  clear hW0 ha hb h h'
  by_cases hmn : m = n
  · subst hmn
    have hq : (m == m) = true := by simp
    go_enter Try.func17, Try.ntmps17
    go_upto_region 1 with (fail)
    rw [HW0.out]
    go_wp2_with (go_at_call 32; refine HSL.out.mono ?_; rintro e w1 ⟨rfl, hb1⟩; have HB1 := Lib.hid hb1; clear hb1)
    go_ret
    exact ⟨ret_bool (by simp), bt HB0.out (Nat.le_refl _) HB1.out⟩
  · have hq : (m == n) = false := by simpa using hmn
    have hd : decide (m = n) = false := by simpa using hmn
    rw [hd]
    clear hmn hd
    go_enter Try.func17, Try.ntmps17
    go_upto_region 1 with (fail)
    rw [HW0.out]
    go_wp2
    go_ret
    exact ⟨rfl, HB0.out⟩
end Go.Proofs.Ytdodhbfplglbkaa

namespace Go.Proofs.Ytdodhbfplglbkaa
open Go.RowKit

end Go.Proofs.Ytdodhbfplglbkaa

namespace Go.Proofs.Ytdodhbfplglbkaa
open Go.RowKit

/-- One world keeps what another had but for some blocks. -/
structure KeepX (S : Nat → Prop) (wx wy : World) : Prop where
  os : wy.os = wx.os
  tape : wy.tape = wx.tape
  output : wy.output = wx.output
  size : wx.heap.size ≤ wy.heap.size
  blk : ∀ k, k < wx.heap.size → ¬ S k → wy.heap[k]? = wx.heap[k]?
theorem KeepX.refl (S : Nat → Prop) (w : World) : KeepX S w w := ⟨rfl, rfl, rfl, Nat.le_refl _, fun _ _ _ => rfl⟩
theorem KeepX.trans {S : Nat → Prop} {a b c : World} (h1 : KeepX S a b) (h2 : KeepX S b c) : KeepX S a c :=
  ⟨h2.os.trans h1.os, h2.tape.trans h1.tape, h2.output.trans h1.output, Nat.le_trans h1.size h2.size, fun k hk hn => (h2.blk k (Nat.lt_of_lt_of_le hk h1.size) hn).trans (h1.blk k hk hn)⟩
theorem KeepX.grown {S : Nat → Prop} {a b : World} {r : Option Nat} (h : a.grownBy b r) (hr : ∀ k, r = some k → S k) : KeepX S a b :=
  ⟨h.os, h.tape, h.output, h.size, fun k hk hn => h.block k hk (fun e => hn (hr k e.symm))⟩
theorem KeepX.set_ {S : Nat → Prop} {a b : World} (h : KeepX S a b) {g : Nat} (hg : S g) (i : Nat) (u : Value) : KeepX S a (b.setCell ⟨g, i, none⟩ u) :=
  ⟨h.os, h.tape, h.output, by simpa [World.setCell] using h.size, fun k hk hn => (Below.heap_setCell _ _ _ _ (by intro e; subst e; exact hn hg)).trans (h.blk k hk hn)⟩
theorem KeepX.alloc {S : Nat → Prop} {a b : World} (h : KeepX S a b) (o : Obj) : KeepX S a (b.alloc o) :=
  ⟨h.os, h.tape, h.output, Nat.le_trans h.size (by simp), fun k hk hn => (Below.heap_alloc _ _ _ (Nat.lt_of_lt_of_le hk h.size)).trans (h.blk k hk hn)⟩
theorem KeepX.drew {S : Nat → Prop} {a b : World} (h : KeepX S a b) : KeepX S a b.drew := ⟨h.os, h.tape, h.output, h.size, h.blk⟩

theorem KeepX.below {S : Nat → Prop} {B : Nat} {X a b : World} (h : Below B X a) (k : KeepX S a b) (hB : B ≤ a.heap.size) (hS : ∀ j, S j → B ≤ j) : Below B X b :=
  h.trans ⟨k.os, k.tape, k.output, k.size, fun j hj => k.blk j (by omega) (fun e => by have := hS j e; omega)⟩
theorem own_set1X {w : World} {B n cap g q : Nat} {t : TypeId} {xs : List Value} (h : w.ownsRow B t 1 (.slice (some ⟨g, 0, none⟩) n cap) n xs) (hq : q < n) (u : Value) :
    B ≤ g ∧ (∃ cs, Blk w g t cs) ∧ (∀ i, w.frozen? ⟨g, i, none⟩ = false) ∧ w.cell? ⟨g, q, none⟩ = xs[q]? ∧ (w.setCell ⟨g, q, none⟩ u).ownsRow B t 1 (.slice (some ⟨g, 0, none⟩) n cap) n (xs.set q u) := by
  have hl := h.1
  rcases h.2 with ⟨hv, hn0⟩ | ⟨g', cap', cur, hv, hB, hh, h1, h2, h3, h4⟩
  · omega
  · injection hv with e1 e2 e3
    injection e1 with e1
    injection e1 with e1
    subst e1 e3
    have hb : Blk w g t cur := hh
    refine ⟨hB, ⟨cur, hb⟩, fun i => hb.frozen i, ?_, by simpa using hl, .inr ⟨g, cap, cur.setIfInBounds q u, rfl, hB, Blk.set_ hb q u, h1, h2, by simpa using h3, ?_⟩⟩
    · rw [hb.cell, ← h4, List.getElem?_take, if_pos (by omega), Array.getElem?_toList]
    · rw [Array.toList_setIfInBounds, ← h4, List.take_set]
theorem own_farX {w : World} {B k n g : Nat} {t t' : TypeId} {v : Value} {xs : List Value} {cs : Array Value} (h : w.ownsRow B t k v n xs) (hb : Blk w g t' cs) (ht : t ≠ t') (i : Nat) (u : Value) : (w.setCell ⟨g, i, none⟩ u).ownsRow B t k v n xs :=
  own_of_block h fun g2 hg2 => Below.heap_setCell _ _ _ _ (fun e => own_blk_ne h hb ht (by rw [hg2, e]))
/-- What memory holds while a formula of one's own is written over. -/
structure SpC (W1 wx : World) (B N : Nat) (v : Value) (us : List Value) (F : List (List Int)) (k : Nat) : Prop where
  keep : KeepX (fun j => B ≤ j ∧ j < N) W1 wx
  row : ∃ vs : List Value, vs.length = us.length ∧ wx.ownsRow B 81 1 v us.length vs ∧ ∀ i, k ≤ i → vs[i]? = us[i]?
  each : ∀ (i : Nat) (u : Value) (zs : List Int), k ≤ i → us[i]? = some u → F[i]? = some zs → wx.ownsRow B 3 1 u zs.length (zs.flatMap encI)
theorem SpC.put {W1 wx w2 : World} {B N g c k : Nat} {us : List Value} {F : List (List Int)} (h : SpC W1 wx B N (.slice (some ⟨g, 0, none⟩) us.length c) us F k) (h0 : CRow W1 B (.slice (some ⟨g, 0, none⟩) us.length c) us F) (hNg : g < N) (_hN : N ≤ W1.heap.size) (hk : k < us.length) (u : Value) (zs : List Int) (hu : us[k]? = some u) (hz : F[k]? = some zs)
    (hlt : ∀ (i : Nat) (x : Value), us[i]? = some x → ∀ j, x.ownBlock = some j → B ≤ j ∧ j < N) (hg : wx.grownBy w2 u.ownBlock) (o : Obj) (x : Value) : SpC W1 ((w2.setCell ⟨g, k, none⟩ x).alloc o) B N (.slice (some ⟨g, 0, none⟩) us.length c) us F (k + 1) := by
  obtain ⟨vs, hvl, hvo, hvs⟩ := h.row
  have hB : B ≤ g := (hvo.lt g rfl).1
  have ho2 : w2.ownsRow B 81 1 (.slice (some ⟨g, 0, none⟩) us.length c) us.length vs := own_other hvo (h.each k u zs (Nat.le_refl _) hu hz) (by decide) hg
  obtain ⟨_, ⟨cs, hcs⟩, _, _, ho4⟩ := own_set1X ho2 (q := k) hk x
  refine ⟨((h.keep.trans (KeepX.grown hg (fun j hj => hlt k u hu j hj))).set_ ⟨hB, hNg⟩ k x).alloc o, ⟨vs.set k x, by rw [List.length_set, hvl], own_below ho4 ((Below.refl _ _).alloc (Nat.le_refl _) o), fun i hi => by rw [List.getElem?_set_ne (by omega)]; exact hvs i (by omega)⟩, fun i u' zs' hi hu' hz' => ?_⟩
  have h1 := h.each i u' zs' (by omega) hu' hz'
  have h2 : w2.ownsRow B 3 1 u' zs'.length (zs'.flatMap encI) := own_of_block h1 fun j hj => hg.block j (h1.lt j hj).2 (fun e => h0.ap k i u u' (by omega) hu hu' j e.symm hj)
  exact own_below (own_farX h2 hcs (by decide) k x) ((Below.refl _ _).alloc (Nat.le_refl _) o)

set_option maxHeartbeats 2000000 in
set_option maxRecDepth 100000 in
theorem SpoilCnf_any (w0 w : World) (B : Nat) (v : Value) (us : List Value) (F : List (List Int)) (n mk : Int) (h0 : CRow w0 B v us F) (h : CRow w B v us F) (hN : w0.heap.size ≤ w.heap.size) :
    Calls Try.prog 18 #[.agg #[.int .i64 n, v], .int .i64 mk] w fun e w' => e = .returned (.tuple #[]) ∧ KeepX (fun k => B ≤ k ∧ k < w0.heap.size) w w' := by
  have HN := Lib.hid hN
  have HLT : Hid (∀ (i : Nat) (x : Value), us[i]? = some x → ∀ j, x.ownBlock = some j → B ≤ j ∧ j < w0.heap.size) := Lib.hid (fun i x hi j hj => by
    obtain ⟨zs, hz⟩ : ∃ zs, F[i]? = some zs := ⟨_, List.getElem?_eq_getElem (by rw [← h0.ul]; exact (List.getElem?_eq_some_iff.1 hi).1)⟩
    exact (h0.each i x zs hi hz).lt j hj)
  have HUL := Lib.hid h0.ul
  have HGN : Hid (∀ j, v.ownBlock = some j → B ≤ j ∧ j < w0.heap.size) := Lib.hid (fun j hj => h0.own.lt j hj)
  have hb1 : Below w.heap.size w (w.alloc (.cells #[.int .i64 n, v] 34)) := (Below.refl _ _).alloc (Nat.le_refl _) _
  have hr1 := h.below hb1
  obtain ⟨W1, hW1⟩ : ∃ W1, w.alloc (.cells #[.int .i64 n, v] 34) = W1 := ⟨_, rfl⟩
  have HX : Hid (Blk W1 w.heap.size 34 #[.int .i64 n, v]) := Lib.hid (by rw [← hW1]; exact Blk.new w _ _)
  have HS1 : Hid (w.heap.size < W1.heap.size) := Lib.hid (by rw [← hW1]; simp)
  have HKW : Hid (KeepX (fun k => B ≤ k ∧ k < w0.heap.size) w W1) := Lib.hid (by rw [← hW1]; exact (KeepX.refl _ w).alloc _)
  rw [hW1] at hr1
  have HW1 := Lib.hid hW1
  have HR1 := Lib.hid hr1
  obtain ⟨N, hNN⟩ : ∃ N, w0.heap.size = N := ⟨_, rfl⟩
  rw [hNN] at HN HLT HGN HKW ⊢
  obtain ⟨A, c, hv⟩ := own_slice_k hr1.own
  have hml : us.length ≤ maxLen := by
    rcases hr1.own.2 with ⟨_, h0⟩ | ⟨_, cap, _, _, _, _, h1, h2, _⟩
    · omega
    · omega
  unfold maxLen at hml
  subst hv
  have c0 := HX.out.cell 1
  simp only [List.getElem?_toArray, List.getElem?_cons_zero, List.getElem?_cons_succ] at c0
  clear h0 h hb1 hr1 hW1 hNN hN
  go_enter Try.func18, Try.ntmps18
  go_upto_region 1 with (fail)
  rw [HW1.out]
  go_wp2
  go_loopg [4] us.length (fun k j wx => ∃ q : Nat, q ≤ us.length ∧ k = us.length - q ∧ j = .int .i64 q ∧ SpC W1 wx B N (.slice A us.length c) us F q)
  case atStart => exact ⟨0, Nat.zero_le _, rfl, rfl, KeepX.refl _ _, ⟨us, rfl, HR1.out.own, fun i _ => rfl⟩, fun i u zs _ hu hz => HR1.out.each i u zs hu hz⟩
  case round =>
    obtain ⟨q, hq, hgk, rfl, hst⟩ := hrel
    subst hgk
    have HST := Lib.hid hst
    have HXW : Hid (Blk wr w.heap.size 34 #[.int .i64 n, .slice A us.length c]) := Lib.hid ((hst.keep.blk w.heap.size HS1.out (by have := HN.out; omega)).trans HX.out)
    clear c0 hst
    have c0 := HXW.out.cell 1
    simp only [List.getElem?_toArray, List.getElem?_cons_zero, List.getElem?_cons_succ] at c0
    by_cases hlt : q < us.length
    · obtain ⟨u, hu⟩ : ∃ u, us[q]? = some u := ⟨_, List.getElem?_eq_getElem hlt⟩
      obtain ⟨zs, hz⟩ : ∃ zs, F[q]? = some zs := ⟨_, List.getElem?_eq_getElem (by rw [← HUL.out]; exact hlt)⟩
      obtain ⟨vs, hvl, hvo, hvs⟩ := HST.out.row
      obtain ⟨gj, capj, ej, hBg, _, _, hcj, _, _⟩ := own_cells_v hvo (by omega)
      injection ej with e1 e2 e3
      subst e1 e3
      have o0 := hcj q u ((hvs q (Nat.le_refl _)).trans hu)
      have HE := Lib.hid (HST.out.each q u zs (Nat.le_refl _) hu hz)
      have HSP := Lib.hid (SpoilInts_any wr B zs.length u _ mk HE.out)
      have HU := Lib.hid hu
      have HZ := Lib.hid hz
      have HNX : Hid (∀ w2, wr.grownBy w2 u.ownBlock → Blk w2 w.heap.size 34 #[.int .i64 n, .slice (some ⟨gj, 0, none⟩) us.length c] ∧ ∃ u2, w2.cell? ⟨gj, q, none⟩ = some u2 ∧ w2.frozen? ⟨gj, q, none⟩ = false ∧ gj < w2.heap.size) := Lib.hid (fun w2 hg => by
        refine ⟨(hg.block w.heap.size HXW.out.lt (fun e => own_blk_ne HE.out HXW.out (by decide) e.symm)).trans HXW.out, ?_⟩
        have ho2 := own_other hvo HE.out (by decide) hg
        obtain ⟨gj2, capj2, ej2, _, _, _, hcj2, hfj2, _⟩ := own_cells_v ho2 (by omega)
        injection ej2 with e1 e2 e3
        injection e1 with e1
        injection e1 with e1
        subst e1
        exact ⟨u, hcj2 q u ((hvs q (Nat.le_refl _)).trans hu), hfj2 q, (ho2.lt gj rfl).2⟩)
      have HPUT := Lib.hid (fun (w2 : World) (hg : wr.grownBy w2 u.ownBlock) (o : Obj) (x : Value) => HST.out.put HR1.out (HGN.out gj rfl).2 (Nat.le_trans HN.out (Nat.le_of_lt HS1.out)) hlt u zs hu hz HLT.out hg o x)
      clear hcj hu hz hvo hvs hvl
      go_wp2_with (go_at_call 54; refine HSP.out.mono ?_; rintro e w2 ⟨rfl, hg⟩; have HG := Lib.hid hg; obtain ⟨hx2, u2, hu2, hf2, hl2⟩ := HNX.out w2 hg; have HX2 := Lib.hid hx2; clear c0 o0 hg hx2; have c0 := HX2.out.cell 1; simp only [List.getElem?_toArray, List.getElem?_cons_zero, List.getElem?_cons_succ] at c0)
      go_roundg (us.length - (q + 1))
      case measure => omega
      case rel => exact ⟨q + 1, by omega, rfl, by go_num, HPUT.out w2 HG.out _ _⟩
    · have hqe : us.length = q := by omega
      subst hqe
      go_wp2
      go_end0
      exact ⟨rfl, HKW.out.trans HST.out.keep⟩
end Go.Proofs.Ytdodhbfplglbkaa
