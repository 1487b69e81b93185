/- Stim: whether a trace fits; Check. -/
import Derived.Test.YtjbglgmbnjdhcaaDoorStmG
import Derived.Test.YtjbglgmbnjdhcaaDoorStmF
namespace Go.Proofs.YtjbglgmbnjdhcaaDoor
open Go.RowKit

/-- A witness whose lists are the call's own. -/
structure OwnW (w : World) (B : Nat) (x : Wit) (vp vi vr : Value) : Prop where
  p : w.ownsRow B 57 2 vp x.ps.length (x.ps.flatMap encPp)
  t : OwnT w B x.tr ⟨vi, vr⟩
theorem own_box {w w' : World} {B g n k : Nat} {e t : TypeId} {v : Value} {xs : List Value} {cs : Array Value} (h : w.ownsRow B e k v n xs) (hb : Blk w g t cs) (ht : e ≠ t) (ho : ∀ k, k ≠ g → w'.heap[k]? = w.heap[k]?) : w'.ownsRow B e k v n xs :=
  own_of_block h fun j hj => ho j (fun e => own_blk_ne h hb ht (by rw [hj, e]))
theorem OwnT.box {w w' : World} {B g : Nat} {tr : Tr} {U : TV} {t : TypeId} {cs : Array Value} (h : OwnT w B tr U) (hb : Blk w g t cs) (h1 : 4 ≠ t) (h2 : 23 ≠ t) (ho : ∀ k, k ≠ g → w'.heap[k]? = w.heap[k]?) : OwnT w' B tr U := by
  obtain ⟨us, a1, a2, a3⟩ := h.ex
  exact ⟨own_box h.i hb h1 ho, us, a1, own_box a2 hb h2 ho, fun i u zs hu hz => own_box (a3 i u zs hu hz) hb h1 ho⟩
theorem OwnW.box {w w' : World} {B g : Nat} {x : Wit} {vp vi vr : Value} {t : TypeId} {cs : Array Value} (h : OwnW w B x vp vi vr) (hb : Blk w g t cs) (h0 : 57 ≠ t) (h1 : 4 ≠ t) (h2 : 23 ≠ t) (ho : ∀ k, k ≠ g → w'.heap[k]? = w.heap[k]?) : OwnW w' B x vp vi vr :=
  ⟨own_box h.p hb h0 ho, h.t.box hb h1 h2 ho⟩
theorem OwnT.le {w : World} {B B' : Nat} {t : Tr} {U : TV} (h : OwnT w B t U) (hb : B' ≤ B) : OwnT w B' t U := by
  obtain ⟨us, a1, a2, a3⟩ := h.ex
  exact ⟨own_le h.i hb, us, a1, own_le a2 hb, fun i u zs hu hz => own_le (a3 i u zs hu hz) hb⟩
theorem OwnT.none_ (w : World) (B : Nat) : OwnT w B ⟨[], [], 0⟩ ⟨.slice none 0 0, .slice none 0 0⟩ :=
  ⟨World.ownsRow_nil _ _ _ _, [], rfl, World.ownsRow_nil _ _ _ _, fun i u zs hu _ => by simp at hu⟩
theorem OwnW.below {w w' : World} {B : Nat} {x : Wit} {vp vi vr : Value} (h : OwnW w B x vp vi vr) (hb : Below w.heap.size w w') : OwnW w' B x vp vi vr := ⟨own_below h.p hb, h.t.below hb⟩
theorem parseW_eq (L n : Nat) {s a1 r1 a2 r2 : Bs} (h1 : lnB s = (a1, r1)) (h2 : lnB r1 = (a2, r2)) : parseW L n s = match stB a1 with
    | none => none
    | some st => match propsB a2 with
      | none => none
      | some ps => if st = 1 then (bodyB L n r2).map fun x => (⟨1, ps, x.1⟩, x.2) else if (lnB r2).1 = [46] then some (⟨st, ps, ⟨[], [], 0⟩⟩, (lnB r2).2) else none := by
  unfold parseW stB
  rw [h1]
  simp only [h2]
  cases numB a1 with
  | none => rfl
  | some v =>
    simp only
    split <;> rfl
theorem build_w0 (w : World) : (Instr.build 28 #[]).run Tryd.prog w = .ok (.agg #[.int .i64 0, .slice none 0 0, .slice none 0 0, .slice none 0 0, .int .i64 0]) w := by kernel_rfl
theorem build_f0 (w : World) : (Instr.build 40 #[]).run Tryd.prog w = .ok (.agg #[.int .i64 0, .int .i64 0]) w := by kernel_rfl
theorem build_w2 (A : Option Addr) (k c : Nat) (z : Int) (w : World) : (Instr.build 28 #[(0, .int .i64 z), (1, .slice A k c)]).run Tryd.prog w = .ok (.agg #[.int .i64 z, .slice A k c, .slice none 0 0, .slice none 0 0, .int .i64 0]) w := run_build w _ _ _ (by kernel_rfl)
theorem five_of {w : World} {g : Nat} {t : TypeId} {a b c d e : Value} (h : Blk w g t #[a, b, c, d, e]) : w.cell? ⟨g, 0, none⟩ = some a ∧ w.cell? ⟨g, 1, none⟩ = some b ∧ w.cell? ⟨g, 2, none⟩ = some c ∧ w.cell? ⟨g, 3, none⟩ = some d ∧ w.cell? ⟨g, 4, none⟩ = some e := ⟨h.cell 0, h.cell 1, h.cell 2, h.cell 3, h.cell 4⟩
/-- What reading a witness comes to. -/
def WtPost (w : World) (b : Nat) (s : Bs) (L n : Nat) (R : Option (Wit × Bs)) (e : Ending) (w' : World) : Prop :=
  w.grownBy w' (some b) ∧ ∃ (st lp at' code : Int) (vp vi vr : Value) (p' l' : Nat), (∃ A k c A2 k2 c2 A3 k3 c3, vp = .slice A k c ∧ vi = .slice A2 k2 c2 ∧ vr = .slice A3 k3 c3) ∧ Rd w' b s p' l' L n ∧ p' ≤ s.length ∧ e = .returned (.tuple #[.agg #[.int .i64 st, vp, vi, vr, .int .i64 lp], .agg #[.int .i64 at', .int .i64 code]]) ∧ (R = none → code ≠ 0 ∧ 0 ≤ at' ∧ at' ≤ (s.length : Int)) ∧ ∀ x r, R = some (x, r) → at' = 0 ∧ code = 0 ∧ s.drop p' = r ∧ st = x.st ∧ lp = x.tr.loop ∧ OwnW w' w.heap.size x vp vi vr
set_option maxHeartbeats 8000000 in
set_option maxRecDepth 100000 in
theorem witness_any (w : World) (B b : Nat) (s : Bs) (p l L n : Nat) (h : Rd w b s p l L n) (hp : p ≤ s.length) (hs : s.length ≤ 262144) (hLn : L ≤ 16384 ∧ n ≤ 16384) (lib : LibB B w) (hB : B ≤ b) :
    Calls Tryd.prog 25 #[.pointer (some ⟨b, 0, none⟩)] w (WtPost w b s L n (parseW L n (s.drop p))) := by
  have hlt : b < w.heap.size := Blk.lt h
  have HS := Lib.hid hs
  have HUP : Hid (∀ wx, w.grownBy wx (some b) → LibB B wx) := Lib.hid (fun wx hg => lib.on (gb_to hg hB (by omega)))
  have HLI := Lib.hid (fun (wx : World) (p l : Nat) (hg : w.grownBy wx (some b)) (hx : Rd wx b s p l L n) (hp : p ≤ s.length) => line_any wx B b s p l L n hx hp hs (HUP.out wx hg) hB)
  have HST := Lib.hid (fun (wx : World) (x : Bs) (hg : w.grownBy wx (some b)) (hx : x.length ≤ 262144) => statusOf_any wx B x hx (HUP.out wx hg) (by have := hg.size; omega))
  have HPS := Lib.hid (fun (wx : World) (x : Bs) (hg : w.grownBy wx (some b)) (hx : x.length ≤ 262144) => propsOf_any wx B x hx (HUP.out wx hg) (by have := hg.size; omega))
  have HTR := Lib.hid (fun (wx : World) (p l : Nat) (hg : w.grownBy wx (some b)) (hx : Rd wx b s p l L n) (hp : p ≤ s.length) => trace_any wx B b s p l L n hx hp hs hLn (HUP.out wx hg) hB)
  obtain ⟨a1, r1, hln1⟩ : ∃ a r, lnB (s.drop p) = (a, r) := ⟨_, _, rfl⟩
  obtain ⟨a2, r2, hln2⟩ : ∃ a r, lnB r1 = (a, r) := ⟨_, _, rfl⟩
  have haf1 := aftB_ok (s := s) (p := p) hp
  obtain ⟨q1, hq1⟩ : ∃ q, aftB s p = q := ⟨_, rfl⟩
  rw [hln1, hq1] at haf1
  dsimp only at haf1
  have haf2 := aftB_ok (s := s) (p := q1) haf1.2.1
  obtain ⟨q2, hq2⟩ : ∃ q, aftB s q1 = q := ⟨_, rfl⟩
  rw [haf1.2.2, hln2, hq2] at haf2
  dsimp only at haf2
  have HA1 : Hid (a1.length ≤ 262144) := Lib.hid (lnB_short hln1 (by rw [List.length_drop]; omega))
  have HA2 : Hid (a2.length ≤ 262144) := Lib.hid (lnB_short hln2 (by rw [← haf1.2.2, List.length_drop]; omega))
  obtain ⟨R, hR⟩ : ∃ R, parseW L n (s.drop p) = R := ⟨_, rfl⟩
  rw [hR]
  rw [parseW_eq L n hln1 hln2] at hR
  have HR := Lib.hid hR
  have HAF1 := Lib.hid haf1
  have HAF2 := Lib.hid haf2
  have hq1s := haf1.2.1
  have hq2s := haf2.2.1
  have hb0 : Below w.heap.size w ((w.alloc (.cells #[.int .i64 0, .slice none 0 0, .slice none 0 0, .slice none 0 0, .int .i64 0] 28)).alloc (.cells #[.int .i64 0, .int .i64 0] 40)) := ((Below.refl _ _).alloc (Nat.le_refl _) _).alloc (by simp) _
  have HZA0 : Hid (Blk ((w.alloc (.cells #[.int .i64 0, .slice none 0 0, .slice none 0 0, .slice none 0 0, .int .i64 0] 28)).alloc (.cells #[.int .i64 0, .int .i64 0] 40)) w.heap.size 28 #[.int .i64 0, .slice none 0 0, .slice none 0 0, .slice none 0 0, .int .i64 0]) := Lib.hid ((Blk.new w _ _).alloc _)
  have HZB0 : Hid (Blk ((w.alloc (.cells #[.int .i64 0, .slice none 0 0, .slice none 0 0, .slice none 0 0, .int .i64 0] 28)).alloc (.cells #[.int .i64 0, .int .i64 0] 40)) (w.heap.size + 1) 40 #[.int .i64 0, .int .i64 0]) := Lib.hid (by
    have := Blk.new (w.alloc (.cells #[.int .i64 0, .slice none 0 0, .slice none 0 0, .slice none 0 0, .int .i64 0] 28)) 40 #[.int .i64 0, .int .i64 0]
    simpa using this)
  have HB0 := Lib.hid hb0
  have HR0 := Lib.hid (h.below hb0)
  have HLN1 := Lib.hid (And.intro hln1 hq1)
  have HLN2 := Lib.hid (And.intro hln2 hq2)
  clear hR haf1 haf2 hln1 hln2 hq1 hq2 hb0 h lib hs
  go_enter Tryd.func25, Tryd.ntmps25
  go_upto_region 1 with (fail)
  generalize (w.alloc (.cells #[.int .i64 0, .slice none 0 0, .slice none 0 0, .slice none 0 0, .int .i64 0] 28)).alloc (.cells #[.int .i64 0, .int .i64 0] 40) = X at HZA0 HZB0 HR0 HB0 ⊢
  have HL1 := Lib.hid (HLI.out X p l (gb_of HB0.out) HR0.out hp)
  rw [HLN1.out.1, HLN1.out.2] at HL1
  go_upto_region 2 with (first
    | (go_at_call 37; refine HL1.out.mono ?_; rintro e w1 ⟨hg1, rfl, hr1⟩; have HG1 := Lib.hid (gb_trans (gb_of (row := some b) HB0.out) hg1); have HR1 := Lib.hid hr1; have HZA1 : Hid (Blk w1 w.heap.size 28 #[.int .i64 0, .slice none 0 0, .slice none 0 0, .slice none 0 0, .int .i64 0]) := Lib.hid ((hg1.block _ (Blk.lt HZA0.out) (fun e => by injection e with e; omega)).trans HZA0.out); have HZB1 : Hid (Blk w1 (w.heap.size + 1) 40 #[.int .i64 0, .int .i64 0]) := Lib.hid ((hg1.block _ (Blk.lt HZB0.out) (fun e => by injection e with e; omega)).trans HZB0.out); clear hg1 hr1)
    | (go_at_call 36; refine (HST.out w1 a1 HG1.out HA1.out).mono ?_; rintro e w2 ⟨hb2, v2, rfl, hv2⟩; have HV2 := Lib.hid hv2; have HRX := Lib.hid (HR1.out.below hb2); have HGX := Lib.hid (gb_below HG1.out hb2); have HZA := Lib.hid (Blk.below HZA1.out hb2 (Blk.lt HZA1.out)); have HZB := Lib.hid (Blk.below HZB1.out hb2 (Blk.lt HZB1.out)); clear hb2 hv2))
  clear HG1 HR1 HZA1 HZB1 HL1 HR0 HB0 HZA0 HZB0 HLN1
  cases hst : stB a1 with
  | none =>
    have HN : Hid (R = none) := Lib.hid (by have h1 := HR.out; rw [hst] at h1; exact h1.symm)
    clear hst
    have hbld := build_w0 w2
    have HWG := Lib.hid (wrong_any w2 b s q1 p L n 120 HRX.out)
    go_wp2_with (first
      | (go_at_call 38; refine HWG.out.mono ?_; rintro e wy ⟨rfl, hb⟩; have HRY := Lib.hid (HRX.out.below hb); have HGY := Lib.hid (gb_below HGX.out hb); have HZY := Lib.hid (Blk.below HZA.out hb (Blk.lt HZA.out)); have HZZ := Lib.hid (Blk.below HZB.out hb (Blk.lt HZB.out)); clear hb)
      | (refine wpList_store_row rfl 28 (.tmp 2) (.tmp 16) rfl w.heap.size #[.int .i64 0, .slice none 0 0, .slice none 0 0, .slice none 0 0, .int .i64 0] rfl rfl 28 _ HZY.out (by kernel_rfl) rfl (by simp [Value.oneCell']) ?_)
      | (refine wpList_store_row rfl 40 (.tmp 3) (.tmp 18) rfl (w.heap.size + 1) #[.int .i64 (p : Int), .int .i64 120] rfl rfl 40 _ (far_row HZZ.out (by omega)) (by kernel_rfl) rfl (by simp [Value.oneCell']) ?_))
    refine bodyPost_ret (results_cellT (fn := Tryd.f25) (p := 2) (q := 3) rfl _ _ w.heap.size 28 #[.int .i64 0, .slice none 0 0, .slice none 0 0, .slice none 0 0, .int .i64 0] (0, 0) _ rfl (far_row (setRow_heap _ _ _ #[.int .i64 0, .slice none 0 0, .slice none 0 0, .slice none 0 0, .int .i64 0] _ _ HZY.out) (by omega)) Tryd.underlying28 rfl (by kernel_rfl) (w.heap.size + 1) 40 #[.int .i64 (p : Int), .int .i64 120] (0, 0) _ rfl (setRow_heap _ _ _ #[.int .i64 (p : Int), .int .i64 120] _ _ (far_row HZZ.out (by omega))) Tryd.underlying40 rfl (by kernel_rfl)) rfl ?_
    exact ⟨gb_setRow (gb_setRow HGY.out (Nat.le_refl _)) (by omega), 0, 0, _, _, _, _, _, q1, p, ⟨_, _, _, _, _, _, _, _, _, rfl, rfl, rfl⟩, Rd.row (Rd.row HRY.out (by omega)) (by omega), by omega, rfl, fun _ => ⟨by decide, by omega, by omega⟩, fun x r hh => by rw [HN.out] at hh; cases hh⟩
  | some st =>
    obtain rfl := HV2.out st hst
    have HR2 : Hid ((match propsB a2 with
      | none => none
      | some ps => if st = 1 then (bodyB L n r2).map fun x => (⟨1, ps, x.1⟩, x.2) else if (lnB r2).1 = [46] then some (⟨st, ps, ⟨[], [], 0⟩⟩, (lnB r2).2) else none) = R) := Lib.hid (by have h1 := HR.out; rw [hst] at h1; exact h1)
    clear hst HV2 HR
    have HL2 := Lib.hid (HLI.out w2 q1 p HGX.out HRX.out hq1s)
    rw [HAF1.out.2.2, HLN2.out.1, HLN2.out.2] at HL2
    go_upto_region 5 with (first
      | (go_at_call 37; refine HL2.out.mono ?_; rintro e w3 ⟨hg3, rfl, hr3⟩; have HG3 := Lib.hid (gb_trans HGX.out hg3); have HR3 := Lib.hid hr3; have HZA3 : Hid (Blk w3 w.heap.size 28 #[.int .i64 0, .slice none 0 0, .slice none 0 0, .slice none 0 0, .int .i64 0]) := Lib.hid ((hg3.block _ (Blk.lt HZA.out) (fun e => by injection e with e; omega)).trans HZA.out); have HZB3 : Hid (Blk w3 (w.heap.size + 1) 40 #[.int .i64 0, .int .i64 0]) := Lib.hid ((hg3.block _ (Blk.lt HZB.out) (fun e => by injection e with e; omega)).trans HZB.out); clear hg3 hr3 HRX HGX HZA HZB)
      | (go_at_call 39; refine (HPS.out w3 a2 HG3.out HA2.out).mono ?_; rintro e w4 ⟨hb4, v4, rfl, hv4⟩; have HV4 := Lib.hid hv4; have HRX := Lib.hid (HR3.out.below hb4); have HGX := Lib.hid (gb_below HG3.out hb4); have HZA := Lib.hid (Blk.below HZA3.out hb4 (Blk.lt HZA3.out)); have HZB := Lib.hid (Blk.below HZB3.out hb4 (Blk.lt HZB3.out)); have HSZ3 : Hid (w.heap.size ≤ w3.heap.size) := Lib.hid HG3.out.size; clear hb4 hv4))
    clear HG3 HR3 HZA3 HZB3 HL2 HLN2
    cases hps : propsB a2 with
    | none =>
      have HN : Hid (R = none) := Lib.hid (by have h1 := HR2.out; rw [hps] at h1; exact h1.symm)
      clear hps
      rw [show (none : Option (List (Int × Int))).isSome = false from rfl]
      have hbld := build_w0 w4
      have HWG := Lib.hid (wrong_any w4 b s q2 q1 L n 121 HRX.out)
      go_wp2_with (first
        | (go_at_call 38; refine HWG.out.mono ?_; rintro e wy ⟨rfl, hb⟩; have HRY := Lib.hid (HRX.out.below hb); have HGY := Lib.hid (gb_below HGX.out hb); have HZY := Lib.hid (Blk.below HZA.out hb (Blk.lt HZA.out)); have HZZ := Lib.hid (Blk.below HZB.out hb (Blk.lt HZB.out)); clear hb)
        | (refine wpList_store_row rfl 28 (.tmp 2) (.tmp 27) rfl w.heap.size #[.int .i64 0, .slice none 0 0, .slice none 0 0, .slice none 0 0, .int .i64 0] rfl rfl 28 _ HZY.out (by kernel_rfl) rfl (by simp [Value.oneCell']) ?_)
        | (refine wpList_store_row rfl 40 (.tmp 3) (.tmp 29) rfl (w.heap.size + 1) #[.int .i64 (q1 : Int), .int .i64 121] rfl rfl 40 _ (far_row HZZ.out (by omega)) (by kernel_rfl) rfl (by simp [Value.oneCell']) ?_))
      refine bodyPost_ret (results_cellT (fn := Tryd.f25) (p := 2) (q := 3) rfl _ _ w.heap.size 28 #[.int .i64 0, .slice none 0 0, .slice none 0 0, .slice none 0 0, .int .i64 0] (0, 0) _ rfl (far_row (setRow_heap _ _ _ #[.int .i64 0, .slice none 0 0, .slice none 0 0, .slice none 0 0, .int .i64 0] _ _ HZY.out) (by omega)) Tryd.underlying28 rfl (by kernel_rfl) (w.heap.size + 1) 40 #[.int .i64 (q1 : Int), .int .i64 121] (0, 0) _ rfl (setRow_heap _ _ _ #[.int .i64 (q1 : Int), .int .i64 121] _ _ (far_row HZZ.out (by omega))) Tryd.underlying40 rfl (by kernel_rfl)) rfl ?_
      exact ⟨gb_setRow (gb_setRow HGY.out (Nat.le_refl _)) (by omega), 0, 0, _, _, _, _, _, q2, q1, ⟨_, _, _, _, _, _, _, _, _, rfl, rfl, rfl⟩, Rd.row (Rd.row HRY.out (by omega)) (by omega), by omega, rfl, fun _ => ⟨by decide, by omega, by omega⟩, fun x r hh => by rw [HN.out] at hh; cases hh⟩
    | some ps =>
      have hvo := own_le (HV4.out ps hps) HSZ3.out
      obtain ⟨Av, cv, rfl⟩ := own_slice_k hvo
      have HVP := Lib.hid hvo
      have HR3 : Hid ((if st = 1 then (bodyB L n r2).map fun x => ((⟨1, ps, x.1⟩ : Wit), x.2) else if (lnB r2).1 = [46] then some (⟨st, ps, ⟨[], [], 0⟩⟩, (lnB r2).2) else none) = R) := Lib.hid (by have h1 := HR2.out; rw [hps] at h1; exact h1)
      clear hps hvo HV4 HR2
      obtain ⟨np, hnp⟩ : ∃ k, ps.length = k := ⟨_, rfl⟩
      rw [hnp] at HVP ⊢
      have HNP := Lib.hid hnp
      clear hnp
      have HN7 := Lib.hid (Blk.new w4 28 #[.int .i64 0, .slice none 0 0, .slice none 0 0, .slice none 0 0, .int .i64 0])
      have hbld := build_w2 Av np cv (st : Int) w4
      go_upto_region 8 with (refine wpList_store_row rfl 28 (.tmp 7) (.tmp 32) rfl w4.heap.size #[.int .i64 (st : Int), .slice Av np cv, .slice none 0 0, .slice none 0 0, .int .i64 0] rfl rfl 28 _ HN7.out (by kernel_rfl) rfl (by simp [Value.oneCell']) ?_)
      clear hbld
      have hnr := newRowT w4 #[.int .i64 0, .slice none 0 0, .slice none 0 0, .slice none 0 0, .int .i64 0] #[.int .i64 (st : Int), .slice Av np cv, .slice none 0 0, .slice none 0 0, .int .i64 0] 28
      obtain ⟨W5, hW5⟩ : ∃ W5, (w4.alloc (.cells #[.int .i64 0, .slice none 0 0, .slice none 0 0, .slice none 0 0, .int .i64 0] 28)).setRow w4.heap.size #[.int .i64 (st : Int), .slice Av np cv, .slice none 0 0, .slice none 0 0, .int .i64 0] = W5 := ⟨_, rfl⟩
      rw [hW5] at hnr
      rw [hW5]
      obtain ⟨gw, hgw⟩ : ∃ g, w4.heap.size = g := ⟨_, rfl⟩
      rw [hgw]
      have HGW : Hid (w.heap.size + 2 ≤ gw ∧ b ≠ gw ∧ w.heap.size ≠ gw ∧ w.heap.size + 1 ≠ gw) := Lib.hid (by have := Blk.lt HZB.out; omega)
      have HBG5 : Hid (Blk W5 gw 28 #[.int .i64 (st : Int), .slice Av np cv, .slice none 0 0, .slice none 0 0, .int .i64 0]) := Lib.hid (by rw [← hgw]; exact hnr.2.1)
      have HR5 := Lib.hid (HRX.out.below hnr.1)
      have HG5 := Lib.hid (gb_below HGX.out hnr.1)
      have HZA5 := Lib.hid (Blk.below HZA.out hnr.1 (Blk.lt HZA.out))
      have HZB5 := Lib.hid (Blk.below HZB.out hnr.1 (Blk.lt HZB.out))
      have HVP5 := Lib.hid (own_below HVP.out hnr.1)
      clear hnr hW5 hgw HN7 HRX HGX HZA HZB HVP
      by_cases hs1 : st = 1
      · have hst1 : ((st : Int) == (1 : Int)) = true := by simpa using (by omega : (st : Int) = 1)
        obtain ⟨TF, hTF⟩ : ∃ x, bodyB L n r2 = x := ⟨_, rfl⟩
        have HR6 : Hid ((TF.map fun x => ((⟨1, ps, x.1⟩ : Wit), x.2)) = R) := Lib.hid (by rw [← HR3.out, if_pos hs1, hTF])
        have HT := Lib.hid (HTR.out W5 q2 q1 HG5.out HR5.out hq2s)
        rw [HAF2.out.2.2, hTF] at HT
        have HSE : Hid ((st : Int) = 1) := Lib.hid (by omega)
        clear hTF HR3 hs1
        go_upto_region 11 with (go_at_call 40; refine HT.out.mono ?_; rintro e w6 ⟨hg6, U, lp, p6, l6, ⟨Ai, ki, ci, Ar, kr, cr, rfl⟩, hr6, hp6, hl6, rfl, hyes6⟩; rw [show (TV.val ⟨.slice Ai ki ci, .slice Ar kr cr⟩ lp) = .agg #[.slice Ai ki ci, .slice Ar kr cr, .int .i64 lp] from rfl]; have HBG6 : Hid (Blk w6 gw 28 #[.int .i64 (st : Int), .slice Av np cv, .slice none 0 0, .slice none 0 0, .int .i64 0]) := Lib.hid ((hg6.block gw (Blk.lt HBG5.out) (fun e => by injection e with e; exact HGW.out.2.1 e.symm)).trans HBG5.out); obtain ⟨c0, c1, c2, c3, c4⟩ := five_of HBG6.out; have f2 := Blk.frozen HBG6.out 2; have f3 := Blk.frozen HBG6.out 3; have f4 := Blk.frozen HBG6.out 4; have HG6 := Lib.hid hg6; have HR6b := Lib.hid hr6; have HY6 := Lib.hid hyes6; have HP6 := Lib.hid (And.intro hp6 hl6); clear hg6 hr6 hyes6 hp6 hl6)
        have hp6 := HP6.out.1
        have hl6 := HP6.out.2
        have HBG : Hid (Blk (((w6.setCell ⟨gw, 2, none⟩ (.slice Ai ki ci)).setCell ⟨gw, 3, none⟩ (.slice Ar kr cr)).setCell ⟨gw, 4, none⟩ (.int .i64 lp)) gw 28 #[.int .i64 (st : Int), .slice Av np cv, .slice Ai ki ci, .slice Ar kr cr, .int .i64 lp]) := Lib.hid (Blk.set_ (Blk.set_ (Blk.set_ HBG6.out 2 (.slice Ai ki ci)) 3 (.slice Ar kr cr)) 4 (.int .i64 lp))
        have HRX : Hid (Rd (((w6.setCell ⟨gw, 2, none⟩ (.slice Ai ki ci)).setCell ⟨gw, 3, none⟩ (.slice Ar kr cr)).setCell ⟨gw, 4, none⟩ (.int .i64 lp)) b s p6 l6 L n) := Lib.hid (Rd.cellN (Rd.cellN (Rd.cellN HR6b.out HGW.out.2.1) HGW.out.2.1) HGW.out.2.1)
        have HGX : Hid (w.grownBy (((w6.setCell ⟨gw, 2, none⟩ (.slice Ai ki ci)).setCell ⟨gw, 3, none⟩ (.slice Ar kr cr)).setCell ⟨gw, 4, none⟩ (.int .i64 lp)) (some b)) := Lib.hid (gb_setNew (gb_setNew (gb_setNew (gb_trans HG5.out HG6.out) (by have := HGW.out; omega)) (by have := HGW.out; omega)) (by have := HGW.out; omega))
        have hza : Blk w6 w.heap.size 28 #[.int .i64 0, .slice none 0 0, .slice none 0 0, .slice none 0 0, .int .i64 0] := (HG6.out.block _ (Blk.lt HZA5.out) (fun e => by injection e with e; omega)).trans HZA5.out
        have hzb : Blk w6 (w.heap.size + 1) 40 #[.int .i64 0, .int .i64 0] := (HG6.out.block _ (Blk.lt HZB5.out) (fun e => by injection e with e; omega)).trans HZB5.out
        have HZA : Hid (Blk (((w6.setCell ⟨gw, 2, none⟩ (.slice Ai ki ci)).setCell ⟨gw, 3, none⟩ (.slice Ar kr cr)).setCell ⟨gw, 4, none⟩ (.int .i64 lp)) w.heap.size 28 #[.int .i64 0, .slice none 0 0, .slice none 0 0, .slice none 0 0, .int .i64 0]) := Lib.hid (Blk.far (Blk.far (Blk.far hza HGW.out.2.2.1 _) HGW.out.2.2.1 _) HGW.out.2.2.1 _)
        have HZB : Hid (Blk (((w6.setCell ⟨gw, 2, none⟩ (.slice Ai ki ci)).setCell ⟨gw, 3, none⟩ (.slice Ar kr cr)).setCell ⟨gw, 4, none⟩ (.int .i64 lp)) (w.heap.size + 1) 40 #[.int .i64 0, .int .i64 0]) := Lib.hid (Blk.far (Blk.far (Blk.far hzb HGW.out.2.2.2 _) HGW.out.2.2.2 _) HGW.out.2.2.2 _)
        have HOTH : Hid (∀ k, k ≠ gw → (((w6.setCell ⟨gw, 2, none⟩ (.slice Ai ki ci)).setCell ⟨gw, 3, none⟩ (.slice Ar kr cr)).setCell ⟨gw, 4, none⟩ (.int .i64 lp)).heap[k]? = w6.heap[k]?) := Lib.hid (fun k hk => by
          rw [Below.heap_setCell _ _ _ _ (by simpa using hk), Below.heap_setCell _ _ _ _ (by simpa using hk), Below.heap_setCell _ _ _ _ (by simpa using hk)])
        clear c0 c1 c2 c3 c4 f2 f3 f4 hza hzb
        generalize ((w6.setCell ⟨gw, 2, none⟩ (.slice Ai ki ci)).setCell ⟨gw, 3, none⟩ (.slice Ar kr cr)).setCell ⟨gw, 4, none⟩ (.int .i64 lp) = w7 at HBG HRX HGX HZA HZB HOTH ⊢
        cases TF with
        | none =>
          have HN : Hid (R = none) := Lib.hid HR6.out.symm
          rw [show (none : Option (Tr × Bs)).isSome = false from rfl]
          have hbld := build_w0 w7
          have HWG := Lib.hid (wrong_any w7 b s p6 l6 L n 3 HRX.out)
          go_wp2_with (first
            | (go_at_call 38; refine HWG.out.mono ?_; rintro e wy ⟨rfl, hb⟩; have HRY := Lib.hid (HRX.out.below hb); have HGY := Lib.hid (gb_below HGX.out hb); have HZY := Lib.hid (Blk.below HZA.out hb (Blk.lt HZA.out)); have HZZ := Lib.hid (Blk.below HZB.out hb (Blk.lt HZB.out)); clear hb)
            | (refine wpList_store_row rfl 28 (.tmp 2) (.tmp 46) rfl w.heap.size #[.int .i64 0, .slice none 0 0, .slice none 0 0, .slice none 0 0, .int .i64 0] rfl rfl 28 _ HZY.out (by kernel_rfl) rfl (by simp [Value.oneCell']) ?_)
            | (refine wpList_store_row rfl 40 (.tmp 3) (.tmp 48) rfl (w.heap.size + 1) #[.int .i64 (l6 : Int), .int .i64 3] rfl rfl 40 _ (far_row HZZ.out (by omega)) (by kernel_rfl) rfl (by simp [Value.oneCell']) ?_))
          refine bodyPost_ret (results_cellT (fn := Tryd.f25) (p := 2) (q := 3) rfl _ _ w.heap.size 28 #[.int .i64 0, .slice none 0 0, .slice none 0 0, .slice none 0 0, .int .i64 0] (0, 0) _ rfl (far_row (setRow_heap _ _ _ #[.int .i64 0, .slice none 0 0, .slice none 0 0, .slice none 0 0, .int .i64 0] _ _ HZY.out) (by omega)) Tryd.underlying28 rfl (by kernel_rfl) (w.heap.size + 1) 40 #[.int .i64 (l6 : Int), .int .i64 3] (0, 0) _ rfl (setRow_heap _ _ _ #[.int .i64 (l6 : Int), .int .i64 3] _ _ (far_row HZZ.out (by omega))) Tryd.underlying40 rfl (by kernel_rfl)) rfl ?_
          exact ⟨gb_setRow (gb_setRow HGY.out (Nat.le_refl _)) (by omega), 0, 0, _, _, _, _, _, p6, l6, ⟨_, _, _, _, _, _, _, _, _, rfl, rfl, rfl⟩, Rd.row (Rd.row HRY.out (by omega)) (by omega), by omega, rfl, fun _ => ⟨by decide, by omega, by omega⟩, fun x r hh => by rw [HN.out] at hh; cases hh⟩
        | some y =>
          obtain ⟨t9, r9⟩ := y
          rw [show (some (t9, r9) : Option (Tr × Bs)).isSome = true from rfl]
          have HYES : Hid (R = some ((⟨1, ps, t9⟩ : Wit), r9)) := Lib.hid HR6.out.symm
          obtain ⟨hlp, hdr, hot⟩ := HY6.out t9 r9 rfl
          have HDR := Lib.hid hdr
          have HLE := Lib.hid hlp
          have HOW : Hid (OwnW w7 w.heap.size ⟨1, ps, t9⟩ (.slice Av np cv) (.slice Ai ki ci) (.slice Ar kr cr)) := Lib.hid (OwnW.box (w := w6) ⟨by have h9 := own_turned HVP5.out HG6.out hlt; rw [← HNP.out] at h9 ⊢; exact h9, hot.le HG5.out.size⟩ HBG6.out (by decide) (by decide) (by decide) HOTH.out)
          clear hlp hdr hot
          have hbld := build_f0 w7
          obtain ⟨d0, d1, d2, d3, d4⟩ := five_of HBG.out
          go_wp2_with (first
            | (refine wpList_store_row rfl 28 (.tmp 2) (.tmp 49) rfl w.heap.size #[.int .i64 (st : Int), .slice Av np cv, .slice Ai ki ci, .slice Ar kr cr, .int .i64 lp] rfl rfl 28 _ HZA.out (by kernel_rfl) rfl (by simp [Value.oneCell']) ?_)
            | (refine wpList_store_row rfl 40 (.tmp 3) (.tmp 50) rfl (w.heap.size + 1) #[.int .i64 0, .int .i64 0] rfl rfl 40 _ (far_row HZB.out (by omega)) (by kernel_rfl) rfl (by simp [Value.oneCell']) ?_))
          refine bodyPost_ret (results_cellT (fn := Tryd.f25) (p := 2) (q := 3) rfl _ _ w.heap.size 28 #[.int .i64 (st : Int), .slice Av np cv, .slice Ai ki ci, .slice Ar kr cr, .int .i64 lp] (0, 0) _ rfl (far_row (setRow_heap _ _ _ #[.int .i64 (st : Int), .slice Av np cv, .slice Ai ki ci, .slice Ar kr cr, .int .i64 lp] _ _ HZA.out) (by omega)) Tryd.underlying28 rfl (by kernel_rfl) (w.heap.size + 1) 40 #[.int .i64 0, .int .i64 0] (0, 0) _ rfl (setRow_heap _ _ _ #[.int .i64 0, .int .i64 0] _ _ (far_row HZB.out (by omega))) Tryd.underlying40 rfl (by kernel_rfl)) rfl ?_
          refine ⟨gb_setRow (gb_setRow HGX.out (Nat.le_refl _)) (by omega), _, _, _, _, _, _, _, p6, l6, ⟨_, _, _, _, _, _, _, _, _, rfl, rfl, rfl⟩, Rd.row (Rd.row HRX.out (by omega)) (by omega), by omega, rfl, fun h9 => (by rw [HYES.out] at h9; cases h9), fun x9 r9 hh => ?_⟩
          rw [HYES.out] at hh
          injection hh with hh
          injection hh with h1 h2
          subst h1 h2
          exact ⟨rfl, rfl, HDR.out, by first | rfl | exact HSE.out, by first | rfl | exact HLE.out, (HOW.out.box HZA.out (by decide) (by decide) (by decide) (fun k hk => setRow_other _ _ _ _ hk)).box (far_row HZB.out (by omega)) (by decide) (by decide) (by decide) (fun k hk => setRow_other _ _ _ _ hk)⟩
      · have hst1 : ((st : Int) == (1 : Int)) = false := by simpa using (by omega : ¬ (st : Int) = 1)
        obtain ⟨a3, r3, hln3⟩ : ∃ a r, lnB r2 = (a, r) := ⟨_, _, rfl⟩
        have haf3 := aftB_ok (s := s) (p := q2) hq2s
        obtain ⟨q3, hq3⟩ : ∃ q, aftB s q2 = q := ⟨_, rfl⟩
        rw [HAF2.out.2.2, hln3, hq3] at haf3
        dsimp only at haf3
        have HAF3 := Lib.hid haf3
        have hq3s := haf3.2.1
        have HR6 : Hid ((if a3 = [46] then some ((⟨st, ps, ⟨[], [], 0⟩⟩ : Wit), r3) else none) = R) := Lib.hid (by rw [← HR3.out, if_neg hs1, hln3])
        have HL3 := Lib.hid (HLI.out W5 q2 q1 HG5.out HR5.out hq2s)
        rw [HAF2.out.2.2, hln3, hq3] at HL3
        have hsd3 := strB_dot a3
        clear hln3 hq3 haf3 HR3 hs1
        go_upto_region 11 with (go_at_call 37; refine HL3.out.mono ?_; rintro e w6 ⟨hg6, rfl, hr6⟩; have HBG : Hid (Blk w6 gw 28 #[.int .i64 (st : Int), .slice Av np cv, .slice none 0 0, .slice none 0 0, .int .i64 0]) := Lib.hid ((hg6.block gw (Blk.lt HBG5.out) (fun e => by injection e with e; exact HGW.out.2.1 e.symm)).trans HBG5.out); have HG6 := Lib.hid hg6; have HRX := Lib.hid hr6; have HGX := Lib.hid (gb_trans HG5.out hg6); have HZA : Hid (Blk w6 w.heap.size 28 #[.int .i64 0, .slice none 0 0, .slice none 0 0, .slice none 0 0, .int .i64 0]) := Lib.hid ((hg6.block _ (Blk.lt HZA5.out) (fun e => by injection e with e; omega)).trans HZA5.out); have HZB : Hid (Blk w6 (w.heap.size + 1) 40 #[.int .i64 0, .int .i64 0]) := Lib.hid ((hg6.block _ (Blk.lt HZB5.out) (fun e => by injection e with e; omega)).trans HZB5.out); clear hg6 hr6)
        by_cases h46 : a3 = [46]
        · rw [decide_eq_true h46]
          have HYES : Hid (R = some ((⟨st, ps, ⟨[], [], 0⟩⟩ : Wit), r3)) := Lib.hid (by rw [← HR6.out, if_pos h46])
          have HDR : Hid (s.drop q3 = r3) := Lib.hid HAF3.out.2.2
          have HSE : Hid ((st : Int) = (st : Int)) := Lib.hid rfl
          have HLE : Hid ((0 : Int) = 0) := Lib.hid rfl
          have HOW : Hid (OwnW w6 w.heap.size ⟨st, ps, ⟨[], [], 0⟩⟩ (.slice Av np cv) (.slice none 0 0) (.slice none 0 0)) := Lib.hid ⟨by have h9 := own_turned HVP5.out HG6.out hlt; rw [← HNP.out] at h9 ⊢; exact h9, OwnT.none_ _ _⟩
          clear hsd3 h46
          have hbld := build_f0 w6
          obtain ⟨d0, d1, d2, d3, d4⟩ := five_of HBG.out
          go_wp2_with (first
            | (refine wpList_store_row rfl 28 (.tmp 2) (.tmp 49) rfl w.heap.size #[.int .i64 (st : Int), .slice Av np cv, .slice none 0 0, .slice none 0 0, .int .i64 0] rfl rfl 28 _ HZA.out (by kernel_rfl) rfl (by simp [Value.oneCell']) ?_)
            | (refine wpList_store_row rfl 40 (.tmp 3) (.tmp 50) rfl (w.heap.size + 1) #[.int .i64 0, .int .i64 0] rfl rfl 40 _ (far_row HZB.out (by omega)) (by kernel_rfl) rfl (by simp [Value.oneCell']) ?_))
          refine bodyPost_ret (results_cellT (fn := Tryd.f25) (p := 2) (q := 3) rfl _ _ w.heap.size 28 #[.int .i64 (st : Int), .slice Av np cv, .slice none 0 0, .slice none 0 0, .int .i64 0] (0, 0) _ rfl (far_row (setRow_heap _ _ _ #[.int .i64 (st : Int), .slice Av np cv, .slice none 0 0, .slice none 0 0, .int .i64 0] _ _ HZA.out) (by omega)) Tryd.underlying28 rfl (by kernel_rfl) (w.heap.size + 1) 40 #[.int .i64 0, .int .i64 0] (0, 0) _ rfl (setRow_heap _ _ _ #[.int .i64 0, .int .i64 0] _ _ (far_row HZB.out (by omega))) Tryd.underlying40 rfl (by kernel_rfl)) rfl ?_
          refine ⟨gb_setRow (gb_setRow HGX.out (Nat.le_refl _)) (by omega), _, _, _, _, _, _, _, q3, q2, ⟨_, _, _, _, _, _, _, _, _, rfl, rfl, rfl⟩, Rd.row (Rd.row HRX.out (by omega)) (by omega), by omega, rfl, fun h9 => (by rw [HYES.out] at h9; cases h9), fun x9 r9 hh => ?_⟩
          rw [HYES.out] at hh
          injection hh with hh
          injection hh with h1 h2
          subst h1 h2
          exact ⟨rfl, rfl, HDR.out, by first | rfl | exact HSE.out, by first | rfl | exact HLE.out, (HOW.out.box HZA.out (by decide) (by decide) (by decide) (fun k hk => setRow_other _ _ _ _ hk)).box (far_row HZB.out (by omega)) (by decide) (by decide) (by decide) (fun k hk => setRow_other _ _ _ _ hk)⟩
        · rw [decide_eq_false h46]
          have HN : Hid (R = none) := Lib.hid (by rw [← HR6.out, if_neg h46])
          clear hsd3 h46
          have hbld := build_w0 w6
          have HWG := Lib.hid (wrong_any w6 b s q3 q2 L n 3 HRX.out)
          go_wp2_with (first
            | (go_at_call 38; refine HWG.out.mono ?_; rintro e wy ⟨rfl, hb⟩; have HRY := Lib.hid (HRX.out.below hb); have HGY := Lib.hid (gb_below HGX.out hb); have HZY := Lib.hid (Blk.below HZA.out hb (Blk.lt HZA.out)); have HZZ := Lib.hid (Blk.below HZB.out hb (Blk.lt HZB.out)); clear hb)
            | (refine wpList_store_row rfl 28 (.tmp 2) (.tmp 46) rfl w.heap.size #[.int .i64 0, .slice none 0 0, .slice none 0 0, .slice none 0 0, .int .i64 0] rfl rfl 28 _ HZY.out (by kernel_rfl) rfl (by simp [Value.oneCell']) ?_)
            | (refine wpList_store_row rfl 40 (.tmp 3) (.tmp 48) rfl (w.heap.size + 1) #[.int .i64 (q2 : Int), .int .i64 3] rfl rfl 40 _ (far_row HZZ.out (by omega)) (by kernel_rfl) rfl (by simp [Value.oneCell']) ?_))
          refine bodyPost_ret (results_cellT (fn := Tryd.f25) (p := 2) (q := 3) rfl _ _ w.heap.size 28 #[.int .i64 0, .slice none 0 0, .slice none 0 0, .slice none 0 0, .int .i64 0] (0, 0) _ rfl (far_row (setRow_heap _ _ _ #[.int .i64 0, .slice none 0 0, .slice none 0 0, .slice none 0 0, .int .i64 0] _ _ HZY.out) (by omega)) Tryd.underlying28 rfl (by kernel_rfl) (w.heap.size + 1) 40 #[.int .i64 (q2 : Int), .int .i64 3] (0, 0) _ rfl (setRow_heap _ _ _ #[.int .i64 (q2 : Int), .int .i64 3] _ _ (far_row HZZ.out (by omega))) Tryd.underlying40 rfl (by kernel_rfl)) rfl ?_
          exact ⟨gb_setRow (gb_setRow HGY.out (Nat.le_refl _)) (by omega), 0, 0, _, _, _, _, _, q3, q2, ⟨_, _, _, _, _, _, _, _, _, rfl, rfl, rfl⟩, Rd.row (Rd.row HRY.out (by omega)) (by omega), by omega, rfl, fun _ => ⟨by decide, by omega, by omega⟩, fun x r hh => by rw [HN.out] at hh; cases hh⟩
end Go.Proofs.YtjbglgmbnjdhcaaDoor

namespace Go.Proofs.YtjbglgmbnjdhcaaDoor
open Go.RowKit

def txE (s : Bs) (L n : Int) : Int := if 262144 < s.length then 2 else if cntB L n = false then 1 else 0
set_option maxHeartbeats 2000000 in
theorem checkText_any (w : World) (s : Bs) (L n : Int) : Calls Tryd.prog 24 #[.string (strB s), .int .i64 L, .int .i64 n] w fun e w' => e = .returned (.int .i64 (txE s L n)) ∧ w = w' := by
  have hsz : (strB s).size = s.length := strB_size s
  have HC := Lib.hid (fun (wx : World) => areCounts_any wx L n)
  unfold txE
  generalize strB s = T at hsz
  generalize s.length = sl at hsz ⊢
  by_cases h : 262144 < sl
  · have hz : (262144 : Int) < (sl : Int) := by omega
    rw [if_pos h]
    clear h
    go_enter Tryd.func24, Tryd.ntmps24
    go_wp2
    go_ret
    simp
  · have hz : ¬ (262144 : Int) < (sl : Int) := by omega
    rw [if_neg h]
    clear h
    cases hc : cntB L n with
    | false =>
      rw [hc] at HC
      clear hc
      go_enter Tryd.func24, Tryd.ntmps24
      go_wp2_with (go_at_call 17; refine (HC.out _).mono ?_; rintro e w' ⟨rfl, rfl⟩)
      go_ret
      simp
    | true =>
      rw [hc] at HC
      clear hc
      go_enter Tryd.func24, Tryd.ntmps24
      go_wp2_with (go_at_call 17; refine (HC.out _).mono ?_; rintro e w' ⟨rfl, rfl⟩)
      go_ret
      simp
/-- What a text is read as. -/
def onlyW (o : Option (Wit × Bs)) : Option Wit := match o with
  | some (x, []) => some x
  | _ => none
def readW (L n : Int) (s : Bs) : Option Wit := if txE s L n = 0 then onlyW (parseW L.toNat n.toNat s) else none
def RdPost (w : World) (s : Bs) (R : Option Wit) (e : Ending) (w' : World) : Prop :=
  Below w.heap.size w w' ∧ ∃ (st lp at' code : Int) (vp vi vr : Value), e = .returned (.tuple #[.agg #[.int .i64 st, vp, vi, vr, .int .i64 lp], .agg #[.int .i64 at', .int .i64 code]]) ∧ (R = none → code ≠ 0 ∧ 0 ≤ at' ∧ at' ≤ (s.length : Int) ∧ st = 0 ∧ lp = 0 ∧ vp = .slice none 0 0 ∧ vi = .slice none 0 0 ∧ vr = .slice none 0 0) ∧ ∀ x, R = some x → at' = 0 ∧ code = 0 ∧ st = x.st ∧ lp = x.tr.loop ∧ OwnW w' w.heap.size x vp vi vr
theorem OwnW.le {w : World} {B B' : Nat} {x : Wit} {vp vi vr : Value} (h : OwnW w B x vp vi vr) (hb : B' ≤ B) : OwnW w B' x vp vi vr := ⟨own_le h.p hb, h.t.le hb⟩
theorem build_f1 (c : Int) (w : World) : (Instr.build 40 #[(1, .int .i64 c)]).run Tryd.prog w = .ok (.agg #[.int .i64 0, .int .i64 c]) w := run_build w _ _ _ (by kernel_rfl)
theorem build_f2 (c d : Int) (w : World) : (Instr.build 40 #[(0, .int .i64 c), (1, .int .i64 d)]).run Tryd.prog w = .ok (.agg #[.int .i64 c, .int .i64 d]) w := run_build w _ _ _ (by kernel_rfl)
theorem build_rd (T : ByteArray) (L n : Int) (w : World) : (Instr.build 60 #[(0, .string T), (3, .int .i64 L), (4, .int .i64 n)]).run Tryd.prog w = .ok (.agg #[.string T, .int .i64 0, .int .i64 0, .int .i64 L, .int .i64 n]) w := run_build w _ _ _ (by kernel_rfl)
theorem duo_of {w : World} {g : Nat} {t : TypeId} {a b : Value} (h : Blk w g t #[a, b]) : w.cell? ⟨g, 0, none⟩ = some a ∧ w.cell? ⟨g, 1, none⟩ = some b := ⟨h.cell 0, h.cell 1⟩
set_option maxHeartbeats 8000000 in
set_option maxRecDepth 100000 in
theorem read_any (w : World) (B : Nat) (s : Bs) (L n : Int) (lib : LibB B w) (hB : B ≤ w.heap.size) :
    Calls Tryd.prog 13 #[.string (strB s), .int .i64 L, .int .i64 n] w (RdPost w s (readW L n s)) := by
  have hb0 : Below w.heap.size w ((w.alloc (.cells #[.int .i64 0, .slice none 0 0, .slice none 0 0, .slice none 0 0, .int .i64 0] 28)).alloc (.cells #[.int .i64 0, .int .i64 0] 40)) := ((Below.refl _ _).alloc (Nat.le_refl _) _).alloc (by simp) _
  have HZA0 : Hid (Blk ((w.alloc (.cells #[.int .i64 0, .slice none 0 0, .slice none 0 0, .slice none 0 0, .int .i64 0] 28)).alloc (.cells #[.int .i64 0, .int .i64 0] 40)) w.heap.size 28 #[.int .i64 0, .slice none 0 0, .slice none 0 0, .slice none 0 0, .int .i64 0]) := Lib.hid ((Blk.new w _ _).alloc _)
  have HZB0 : Hid (Blk ((w.alloc (.cells #[.int .i64 0, .slice none 0 0, .slice none 0 0, .slice none 0 0, .int .i64 0] 28)).alloc (.cells #[.int .i64 0, .int .i64 0] 40)) (w.heap.size + 1) 40 #[.int .i64 0, .int .i64 0]) := Lib.hid (by
    have := Blk.new (w.alloc (.cells #[.int .i64 0, .slice none 0 0, .slice none 0 0, .slice none 0 0, .int .i64 0] 28)) 40 #[.int .i64 0, .int .i64 0]
    simpa using this)
  have HSX0 : Hid (((w.alloc (.cells #[.int .i64 0, .slice none 0 0, .slice none 0 0, .slice none 0 0, .int .i64 0] 28)).alloc (.cells #[.int .i64 0, .int .i64 0] 40)).heap.size = w.heap.size + 2) := Lib.hid (by simp)
  have HB0 := Lib.hid hb0
  have HCK := Lib.hid (fun (wx : World) => checkText_any wx s L n)
  have HL0 := Lib.hid lib
  obtain ⟨c, hc⟩ : ∃ x, txE s L n = x := ⟨_, rfl⟩
  obtain ⟨R, hR⟩ : ∃ x, readW L n s = x := ⟨_, rfl⟩
  rw [hR]
  unfold readW at hR
  rw [hc] at HCK hR
  have HR := Lib.hid hR
  have HC := Lib.hid hc
  clear hR hc hb0 lib
  go_enter Tryd.func13, Tryd.ntmps13
  go_upto_region 1 with (fail)
  generalize (w.alloc (.cells #[.int .i64 0, .slice none 0 0, .slice none 0 0, .slice none 0 0, .int .i64 0] 28)).alloc (.cells #[.int .i64 0, .int .i64 0] 40) = X at HZA0 HZB0 HB0 HSX0 ⊢
  go_upto_region 2 with (go_at_call 24; refine (HCK.out X).mono ?_; rintro e w' ⟨rfl, rfl⟩)
  by_cases hc0 : c = 0
  · have hcz : (c != (0 : Int)) = false := by simpa using hc0
    have HOK : Hid (s.length ≤ 262144 ∧ cntB L n = true) := Lib.hid (by
      have h1 := HC.out
      rw [hc0] at h1
      unfold txE at h1
      split at h1
      · cases h1
      · rename_i h2
        cases h3 : cntB L n with
        | true => exact ⟨by omega, rfl⟩
        | false => rw [h3] at h1; cases h1)
    have hcn := HOK.out.2
    unfold cntB at hcn
    simp only [Bool.and_eq_true, decide_eq_true_eq] at hcn
    obtain ⟨⟨hl0, hl1⟩, hn0, hn1⟩ := hcn
    obtain ⟨Ln, rfl⟩ : ∃ k : Nat, L = k := ⟨L.toNat, by omega⟩
    obtain ⟨nn, rfl⟩ : ∃ k : Nat, n = k := ⟨n.toNat, by omega⟩
    obtain ⟨RW, hRW⟩ : ∃ x, parseW Ln nn s = x := ⟨_, rfl⟩
    have HR2 : Hid (onlyW RW = R) := Lib.hid (by
      have h1 := HR.out
      rw [if_pos hc0, Int.toNat_natCast, Int.toNat_natCast, hRW] at h1
      exact h1)
    clear HR HC HCK hc0
    have HN4 := Lib.hid (Blk.new X 60 #[.string ⟨#[]⟩, .int .i64 0, .int .i64 0, .int .i64 0, .int .i64 0])
    have hbld := build_rd (strB s) (Ln : Int) (nn : Int) X
    go_upto_region 5 with (refine wpList_store_row rfl 60 (.tmp 9) (.tmp 24) rfl X.heap.size #[.string (strB s), .int .i64 0, .int .i64 0, .int .i64 (Ln : Int), .int .i64 (nn : Int)] rfl rfl 60 _ HN4.out (by kernel_rfl) rfl (by simp [Value.oneCell']) ?_)
    have hnr := newRowT X #[.string ⟨#[]⟩, .int .i64 0, .int .i64 0, .int .i64 0, .int .i64 0] #[.string (strB s), .int .i64 0, .int .i64 0, .int .i64 (Ln : Int), .int .i64 (nn : Int)] 60
    obtain ⟨W2, hW2⟩ : ∃ W, (X.alloc (.cells #[.string ⟨#[]⟩, .int .i64 0, .int .i64 0, .int .i64 0, .int .i64 0] 60)).setRow X.heap.size #[.string (strB s), .int .i64 0, .int .i64 0, .int .i64 (Ln : Int), .int .i64 (nn : Int)] = W := ⟨_, rfl⟩
    rw [hW2] at hnr
    rw [hW2]
    have HRD2 : Hid (Rd W2 X.heap.size s 0 0 Ln nn) := Lib.hid hnr.2.1
    have HB2 := Lib.hid (HB0.out.trans (hnr.1.mono HB0.out.size))
    have HZA2 := Lib.hid (Blk.below HZA0.out hnr.1 (Blk.lt HZA0.out))
    have HZB2 := Lib.hid (Blk.below HZB0.out hnr.1 (Blk.lt HZB0.out))
    have HWT := Lib.hid (witness_any W2 B X.heap.size s 0 0 Ln nn HRD2.out (Nat.zero_le _) HOK.out.1 ⟨by omega, by omega⟩ (HL0.out.on (HB2.out.mono hB)) (by have := HSX0.out; omega))
    rw [List.drop_zero, hRW] at HWT
    have HW2S := Lib.hid HB2.out.size
    clear hbld hnr hW2 hRW HN4 HZA0 HZB0 HB0
    have HSX := Lib.hid (show w.heap.size + 1 < X.heap.size from by have := HSX0.out; omega)
    go_upto_region 6 with (first
      | (go_at_call 25; refine HWT.out.mono ?_; rintro e w3 ⟨hg3, st, lp, at3, code, vp, vi, vr, p3, l3, ⟨A1, k1, c1, A2, k2, c2, A3, k3, c3, rfl, rfl, rfl⟩, hr3, hp3, rfl, hno3, hyes3⟩; have HG3 := Lib.hid hg3; have HR3 := Lib.hid hr3; have HNO3 := Lib.hid hno3; have HY3 := Lib.hid hyes3; have HP3 := Lib.hid hp3; have HNA := Lib.hid ((Blk.new w3 28 #[.int .i64 0, .slice none 0 0, .slice none 0 0, .slice none 0 0, .int .i64 0]).alloc (.cells #[.int .i64 0, .int .i64 0] 40)); have HNF : Hid (Blk ((w3.alloc (.cells #[.int .i64 0, .slice none 0 0, .slice none 0 0, .slice none 0 0, .int .i64 0] 28)).alloc (.cells #[.int .i64 0, .int .i64 0] 40)) (w3.heap.size + 1) 40 #[.int .i64 0, .int .i64 0]) := Lib.hid (by have := Blk.new (w3.alloc (.cells #[.int .i64 0, .slice none 0 0, .slice none 0 0, .slice none 0 0, .int .i64 0] 28)) 40 #[.int .i64 0, .int .i64 0]; simpa using this); clear hg3 hr3 hno3 hyes3 hp3)
      | (refine wpList_store_row rfl 28 (.tmp 10) (.tmp 27) rfl w3.heap.size #[.int .i64 st, .slice A1 k1 c1, .slice A2 k2 c2, .slice A3 k3 c3, .int .i64 lp] rfl rfl 28 _ HNA.out (by kernel_rfl) rfl (by simp [Value.oneCell']) ?_)
      | (refine wpList_store_row rfl 40 (.tmp 11) (.tmp 28) rfl (w3.heap.size + 1) #[.int .i64 at3, .int .i64 code] rfl rfl 40 _ (far_row HNF.out (by omega)) (by kernel_rfl) rfl (by simp [Value.oneCell']) ?_))
    obtain ⟨W4, hW4⟩ : ∃ W, (((w3.alloc (.cells #[.int .i64 0, .slice none 0 0, .slice none 0 0, .slice none 0 0, .int .i64 0] 28)).alloc (.cells #[.int .i64 0, .int .i64 0] 40)).setRow w3.heap.size #[.int .i64 st, .slice A1 k1 c1, .slice A2 k2 c2, .slice A3 k3 c3, .int .i64 lp]).setRow (w3.heap.size + 1) #[.int .i64 at3, .int .i64 code] = W := ⟨_, rfl⟩
    rw [hW4]
    have hb34 : Below w3.heap.size w3 W4 := by
      rw [← hW4]
      exact below_setRow (below_setRow (((Below.refl _ _).alloc (Nat.le_refl _) _).alloc (by simp) _) (Nat.le_refl _)) (by omega)
    have HKA : Hid (Blk W4 w3.heap.size 28 #[.int .i64 st, .slice A1 k1 c1, .slice A2 k2 c2, .slice A3 k3 c3, .int .i64 lp]) := Lib.hid (by
      rw [← hW4]
      exact far_row (setRow_heap _ _ _ _ _ _ HNA.out) (by omega))
    have HKF : Hid (Blk W4 (w3.heap.size + 1) 40 #[.int .i64 at3, .int .i64 code]) := Lib.hid (by
      rw [← hW4]
      exact setRow_heap _ _ _ _ _ _ (far_row HNF.out (by omega)))
    have hg24 := gb_below HG3.out hb34
    have HB4 : Hid (Below w.heap.size w W4) := Lib.hid (HB2.out.trans (gb_to hg24 (Nat.le_of_lt (Nat.lt_of_succ_lt HSX.out)) HB2.out.size))
    have HR4 := Lib.hid (HR3.out.below hb34)
    have HZA : Hid (Blk W4 w.heap.size 28 #[.int .i64 0, .slice none 0 0, .slice none 0 0, .slice none 0 0, .int .i64 0]) := Lib.hid ((hg24.block _ (Blk.lt HZA2.out) (fun e => by injection e with e; have := HSX.out; omega)).trans HZA2.out)
    have HZB : Hid (Blk W4 (w.heap.size + 1) 40 #[.int .i64 0, .int .i64 0]) := Lib.hid ((hg24.block _ (Blk.lt HZB2.out) (fun e => by injection e with e; have := HSX.out; omega)).trans HZB2.out)
    have HGA : Hid (w.heap.size + 2 < w3.heap.size) := Lib.hid (by have := HG3.out.size; have := HSX.out; have := Blk.lt HRD2.out; omega)
    have HB34 := Lib.hid hb34
    clear hW4 hb34 hg24 HNA HNF HZA2 HZB2 HG3 HR3 HRD2 HB2 HWT
    have HBX : Hid (X.heap.size ≠ w.heap.size ∧ X.heap.size ≠ w.heap.size + 1 ∧ w3.heap.size + 1 ≠ w.heap.size ∧ w3.heap.size + 1 ≠ w.heap.size + 1 ∧ w3.heap.size ≠ w.heap.size ∧ w3.heap.size ≠ w.heap.size + 1) := Lib.hid (by have := HSX.out; have := HGA.out; omega)
    obtain ⟨e0, e1⟩ := duo_of HKF.out
    by_cases hcode : code = 0
    · have hcz2 : (code != (0 : Int)) = false := by simpa using hcode
      obtain ⟨⟨x, r⟩, hy⟩ : ∃ y, RW = some y := by
        cases h9 : RW with
        | none => exact absurd hcode (HNO3.out h9).1
        | some y => exact ⟨y, rfl⟩
      obtain ⟨y1, y2, y3, y4, y5, y6⟩ := HY3.out x r hy
      have HY := Lib.hid (And.intro y3 (And.intro y4 (And.intro y5 y6)))
      clear y1 y2 y3 y4 y5 y6 hcode
      have HM := Lib.hid (more_any W4 X.heap.size s p3 l3 Ln nn HR4.out)
      by_cases hmore : p3 < s.length
      · rw [decide_eq_true hmore] at HM
        have HN : Hid (R = none) := Lib.hid (by
          rw [← HR2.out, hy]
          cases r with
          | nil =>
            have h9 := congrArg List.length HY.out.1
            rw [List.length_drop] at h9
            simp at h9
            omega
          | cons => rfl)
        go_upto_region 9 with (go_at_call 26; refine HM.out.mono ?_; rintro e W5 ⟨rfl, hb5⟩; have HB5 := Lib.hid (bt HB4.out (Nat.le_refl _) hb5); have HZA5 := Lib.hid (Blk.below HZA.out hb5 (Blk.lt HZA.out)); have HZB5 := Lib.hid (Blk.below HZB.out hb5 (Blk.lt HZB.out)); have HR5 := Lib.hid (HR4.out.below hb5); clear hb5 e0 e1 HM)
        refine wp_region_T (by kernel_rfl) (fun w' => w'.cell? ⟨X.heap.size, 1, none⟩ = some (.int .i64 (p3 : Int))) 6 ?_
        have HD : Hid (Below W5.heap.size W5 W5.drew) := Lib.hid (Below.refl _ _).drew
        have HZA6 := Lib.hid (Blk.below HZA5.out HD.out (Blk.lt HZA5.out))
        have HZB6 := Lib.hid (Blk.below HZB5.out HD.out (Blk.lt HZB5.out))
        have HR6 := Lib.hid (HR5.out.below HD.out)
        have HB6 := Lib.hid (bt HB5.out (Nat.le_refl _) HD.out)
        have hHeld := (HR6.out.cells).2.1
        have hbld := build_w0
        have hbld2 := fun wz => build_f2 (p3 : Int) 3 wz
        refine wpAnyT_take (i := 0) (oi := { dst := some 35, op := Op.build 28 #[], type := 28, pos := "stim.go:46", after := #[], guard := none }) (v := ?v0r9q1) rfl (by kernel_rfl) (fun _ _ _ h => h) (by rfl) hHeld ?h0r9q1 ?_
        case h0r9q1 => (intro w' hSw; (try dsimp only at hSw); go_simp; try with_reducible rfl)
        (try simp only [Act.put, List.setIfInBounds_toArray, List.set_cons_zero, List.set_cons_succ])
        refine wpAnyT_take (i := 1) (oi := { dst := some 36, op := Op.fieldAddr 60 (Operand.tmp 9) 1, type := 0, pos := "stim.go:46", after := #[{ on := 4, ground := Ground.gcOnly Departure.lateStores }], guard := none }) (v := ?v1r9q1) rfl (by kernel_rfl) (fun _ _ _ h => h) (by rfl) hHeld ?h1r9q1 ?_
        case h1r9q1 => (intro w' hSw; (try dsimp only at hSw); go_simp; try with_reducible rfl)
        (try simp only [Act.put, List.setIfInBounds_toArray, List.set_cons_zero, List.set_cons_succ])
        refine wpAnyT_take (i := 2) (oi := { dst := some 37, op := Op.load 3 (Operand.tmp 36), type := 3, pos := "stim.go:46", after := #[{ on := 1, ground := Ground.data }, { on := 4, ground := Ground.gcOnly Departure.lateStores }], guard := none }) (v := ?v2r9q1) rfl (by kernel_rfl) (fun _ _ _ h => h) (by rfl) hHeld ?h2r9q1 ?_
        case h2r9q1 => (intro w' hSw; (try dsimp only at hSw); go_simp; try with_reducible rfl)
        (try simp only [Act.put, List.setIfInBounds_toArray, List.set_cons_zero, List.set_cons_succ])
        refine wpAnyT_take (i := 3) (oi := { dst := some 38, op := Op.build 40 #[(0, Operand.tmp 37), (1, Operand.const (Value.int IntKind.i64 3))], type := 40, pos := "stim.go:46", after := #[{ on := 2, ground := Ground.data }, { on := 4, ground := Ground.gcOnly Departure.lateStores }], guard := none }) (v := ?v3r9q1) rfl (by kernel_rfl) (fun _ _ _ h => h) (by rfl) hHeld ?h3r9q1 ?_
        case h3r9q1 => (intro w' hSw; (try dsimp only at hSw); go_simp; try with_reducible rfl)
        (try simp only [Act.put, List.setIfInBounds_toArray, List.set_cons_zero, List.set_cons_succ])
        clear hHeld
        refine wpAnyT_one (i := 4) (o := { dst := none, op := Op.store 28 (Operand.tmp 6) (Operand.tmp 35), type := 0, pos := "stim.go:46", after := #[{ on := 0, ground := Ground.data }, { on := 0, ground := Ground.phase }, { on := 1, ground := Ground.textOnly Departure.lateStores }, { on := 2, ground := Ground.textOnly Departure.lateStores }, { on := 3, ground := Ground.textOnly Departure.lateStores }], guard := none }) rfl (by kernel_rfl) (fun K hK => ?_)
        rw [if_pos (by rfl)]
        refine wp_store_row 28 (.tmp 6) (.tmp 35) rfl w.heap.size #[.int .i64 0, .slice none 0 0, .slice none 0 0, .slice none 0 0, .int .i64 0] rfl rfl 28 _ HZA6.out (by kernel_rfl) rfl (by simp [Value.oneCell']) ?_
        refine hK.out _ _ (fun _ => ((Rd.row HR6.out HBX.out.1).cells).2.1) ?_
        clear hK K
        (try simp only [Act.put])
        refine wpAnyT_one (i := 5) (o := { dst := none, op := Op.store 40 (Operand.tmp 7) (Operand.tmp 38), type := 0, pos := "stim.go:46", after := #[{ on := 3, ground := Ground.data }, { on := 4, ground := Ground.chain }, { on := 0, ground := Ground.phase }, { on := 1, ground := Ground.phase }, { on := 2, ground := Ground.phase }, { on := 3, ground := Ground.phase }, { on := 4, ground := Ground.phase }], guard := none }) rfl (by kernel_rfl) (fun K hK => ?_)
        rw [if_pos (by rfl)]
        refine wp_store_row 40 (.tmp 7) (.tmp 38) rfl (w.heap.size + 1) #[.int .i64 (p3 : Int), .int .i64 3] rfl rfl 40 _ (far_row HZB6.out (by omega)) (by kernel_rfl) rfl (by simp [Value.oneCell']) ?_
        refine hK.out _ _ (fun _ => ((Rd.row (Rd.row HR6.out HBX.out.1) HBX.out.2.1).cells).2.1) ?_
        clear hK K
        (try simp only [Act.put])
        refine wpAnyT_done (by kernel_rfl) ?_
        go_wp2
        refine bodyPost_ret (results_cellT (fn := Tryd.f13) (p := 6) (q := 7) rfl _ _ w.heap.size 28 #[.int .i64 0, .slice none 0 0, .slice none 0 0, .slice none 0 0, .int .i64 0] (0, 0) _ rfl (far_row (setRow_heap _ _ _ #[.int .i64 0, .slice none 0 0, .slice none 0 0, .slice none 0 0, .int .i64 0] _ _ HZA6.out) (by omega)) Tryd.underlying28 rfl (by kernel_rfl) (w.heap.size + 1) 40 #[.int .i64 (p3 : Int), .int .i64 3] (0, 0) _ rfl (setRow_heap _ _ _ #[.int .i64 (p3 : Int), .int .i64 3] _ _ (far_row HZB6.out (by omega))) Tryd.underlying40 rfl (by kernel_rfl)) rfl ?_
        exact ⟨below_setRow (below_setRow HB6.out (Nat.le_refl _)) (by omega), 0, 0, (p3 : Int), 3, _, _, _, rfl, fun _ => ⟨by decide, by omega, by omega, rfl, rfl, rfl, rfl, rfl⟩, fun x hh => by rw [HN.out] at hh; cases hh⟩
      · rw [decide_eq_false hmore] at HM
        have hr : r = [] := by rw [← HY.out.1, List.drop_of_length_le (by omega)]
        have HYES : Hid (R = some x) := Lib.hid (by rw [← HR2.out, hy, hr]; rfl)
        clear hr hy
        go_upto_region 10 with (go_at_call 26; refine HM.out.mono ?_; rintro e W5 ⟨rfl, hb5⟩; have HB5 := Lib.hid (bt HB4.out (Nat.le_refl _) hb5); have HZA5 := Lib.hid (Blk.below HZA.out hb5 (Blk.lt HZA.out)); have HZB5 := Lib.hid (Blk.below HZB.out hb5 (Blk.lt HZB.out)); have HKA5 := Lib.hid (Blk.below HKA.out hb5 (Blk.lt HKA.out)); have HOW5 := Lib.hid (((HY.out.2.2.2.below HB34.out).le HW2S.out).below hb5); clear hb5 e0 e1 HM)
        have hbld := build_f0 W5
        obtain ⟨d0, d1, d2, d3, d4⟩ := five_of HKA5.out
        go_wp2_with (first
          | (refine wpList_store_row rfl 28 (.tmp 6) (.tmp 39) rfl w.heap.size #[.int .i64 st, .slice A1 k1 c1, .slice A2 k2 c2, .slice A3 k3 c3, .int .i64 lp] rfl rfl 28 _ HZA5.out (by kernel_rfl) rfl (by simp [Value.oneCell']) ?_)
          | (refine wpList_store_row rfl 40 (.tmp 7) (.tmp 40) rfl (w.heap.size + 1) #[.int .i64 0, .int .i64 0] rfl rfl 40 _ (far_row HZB5.out (by omega)) (by kernel_rfl) rfl (by simp [Value.oneCell']) ?_))
        refine bodyPost_ret (results_cellT (fn := Tryd.f13) (p := 6) (q := 7) rfl _ _ w.heap.size 28 #[.int .i64 st, .slice A1 k1 c1, .slice A2 k2 c2, .slice A3 k3 c3, .int .i64 lp] (0, 0) _ rfl (far_row (setRow_heap _ _ _ #[.int .i64 st, .slice A1 k1 c1, .slice A2 k2 c2, .slice A3 k3 c3, .int .i64 lp] _ _ HZA5.out) (by omega)) Tryd.underlying28 rfl (by kernel_rfl) (w.heap.size + 1) 40 #[.int .i64 0, .int .i64 0] (0, 0) _ rfl (setRow_heap _ _ _ #[.int .i64 0, .int .i64 0] _ _ (far_row HZB5.out (by omega))) Tryd.underlying40 rfl (by kernel_rfl)) rfl ?_
        refine ⟨below_setRow (below_setRow HB5.out (Nat.le_refl _)) (by omega), _, _, _, _, _, _, _, rfl, fun h9 => (by rw [HYES.out] at h9; cases h9), fun x9 hh => ?_⟩
        rw [HYES.out] at hh
        injection hh with h1
        subst h1
        exact ⟨rfl, rfl, HY.out.2.1, HY.out.2.2.1, (HOW5.out.box HZA5.out (by decide) (by decide) (by decide) (fun k hk => setRow_other _ _ _ _ hk)).box (far_row HZB5.out (by omega)) (by decide) (by decide) (by decide) (fun k hk => setRow_other _ _ _ _ hk)⟩
    · have hcz2 : (code != (0 : Int)) = true := by simpa using hcode
      have hrw : RW = none := by
        cases h9 : RW with
        | none => rfl
        | some y => exact absurd (HY3.out y.1 y.2 h9).2.1 hcode
      have HN : Hid (R = none) := Lib.hid (by rw [← HR2.out, hrw]; rfl)
      have HAT := Lib.hid (HNO3.out hrw).2
      clear hrw
      go_upto_region 7 with (fail)
      clear e0 e1
      refine wp_region_T (by kernel_rfl) (fun w' => w'.cell? ⟨w3.heap.size + 1, 0, none⟩ = some (.int .i64 at3) ∧ w'.cell? ⟨w3.heap.size + 1, 1, none⟩ = some (.int .i64 code)) 4 ?_
      have HD : Hid (Below W4.heap.size W4 W4.drew) := Lib.hid (Below.refl _ _).drew
      have HZA6 := Lib.hid (Blk.below HZA.out HD.out (Blk.lt HZA.out))
      have HZB6 := Lib.hid (Blk.below HZB.out HD.out (Blk.lt HZB.out))
      have HKF6 := Lib.hid (Blk.below HKF.out HD.out (Blk.lt HKF.out))
      have HB6 := Lib.hid (bt HB4.out (Nat.le_refl _) HD.out)
      have hHeld := duo_of HKF6.out
      have hbld := build_w0
      refine wpAnyT_take (i := 0) (oi := { dst := some 32, op := Op.build 28 #[], type := 28, pos := "stim.go:43", after := #[], guard := none }) (v := ?v0r7q2) rfl (by kernel_rfl) (fun _ _ _ h => h) (by rfl) hHeld ?h0r7q2 ?_
      case h0r7q2 => (intro w' hSw; (try dsimp only at hSw); go_simp; try with_reducible rfl)
      (try simp only [Act.put, List.setIfInBounds_toArray, List.set_cons_zero, List.set_cons_succ])
      refine wpAnyT_take (i := 1) (oi := { dst := some 33, op := Op.load 40 (Operand.tmp 11), type := 40, pos := "stim.go:43", after := #[{ on := 2, ground := Ground.gcOnly Departure.lateStores }], guard := none }) (v := ?v1r7q2) rfl (by kernel_rfl) (fun _ _ _ h => h) (by rfl) hHeld ?h1r7q2 ?_
      case h1r7q2 => (intro w' hSw; (try dsimp only at hSw); go_simp; try with_reducible rfl)
      (try simp only [Act.put, List.setIfInBounds_toArray, List.set_cons_zero, List.set_cons_succ])
      clear hHeld
      refine wpAnyT_one (i := 2) (o := { dst := none, op := Op.store 28 (Operand.tmp 6) (Operand.tmp 32), type := 0, pos := "stim.go:43", after := #[{ on := 0, ground := Ground.data }, { on := 0, ground := Ground.phase }, { on := 1, ground := Ground.textOnly Departure.lateStores }], guard := none }) rfl (by kernel_rfl) (fun K hK => ?_)
      rw [if_pos (by rfl)]
      refine wp_store_row 28 (.tmp 6) (.tmp 32) rfl w.heap.size #[.int .i64 0, .slice none 0 0, .slice none 0 0, .slice none 0 0, .int .i64 0] rfl rfl 28 _ HZA6.out (by kernel_rfl) rfl (by simp [Value.oneCell']) ?_
      refine hK.out _ _ (fun _ => duo_of (far_row HKF6.out HBX.out.2.2.1)) ?_
      clear hK K
      (try simp only [Act.put])
      refine wpAnyT_one (i := 3) (o := { dst := none, op := Op.store 40 (Operand.tmp 7) (Operand.tmp 33), type := 0, pos := "stim.go:43", after := #[{ on := 1, ground := Ground.data }, { on := 2, ground := Ground.chain }, { on := 0, ground := Ground.phase }, { on := 1, ground := Ground.phase }, { on := 2, ground := Ground.phase }], guard := none }) rfl (by kernel_rfl) (fun K hK => ?_)
      rw [if_pos (by rfl)]
      refine wp_store_row 40 (.tmp 7) (.tmp 33) rfl (w.heap.size + 1) #[.int .i64 at3, .int .i64 code] rfl rfl 40 _ (far_row HZB6.out (by omega)) (by kernel_rfl) rfl (by simp [Value.oneCell']) ?_
      refine hK.out _ _ (fun _ => duo_of (far_row (far_row HKF6.out HBX.out.2.2.1) HBX.out.2.2.2.1)) ?_
      clear hK K
      (try simp only [Act.put])
      refine wpAnyT_done (by kernel_rfl) ?_
      go_wp2
      refine bodyPost_ret (results_cellT (fn := Tryd.f13) (p := 6) (q := 7) rfl _ _ w.heap.size 28 #[.int .i64 0, .slice none 0 0, .slice none 0 0, .slice none 0 0, .int .i64 0] (0, 0) _ rfl (far_row (setRow_heap _ _ _ #[.int .i64 0, .slice none 0 0, .slice none 0 0, .slice none 0 0, .int .i64 0] _ _ HZA6.out) (by omega)) Tryd.underlying28 rfl (by kernel_rfl) (w.heap.size + 1) 40 #[.int .i64 at3, .int .i64 code] (0, 0) _ rfl (setRow_heap _ _ _ #[.int .i64 at3, .int .i64 code] _ _ (far_row HZB6.out (by omega))) Tryd.underlying40 rfl (by kernel_rfl)) rfl ?_
      exact ⟨below_setRow (below_setRow HB6.out (Nat.le_refl _)) (by omega), 0, 0, at3, code, _, _, _, rfl, fun _ => ⟨hcode, HAT.out.1, HAT.out.2, rfl, rfl, rfl, rfl, rfl⟩, fun x hh => by rw [HN.out] at hh; cases hh⟩
  · have hcz : (c != (0 : Int)) = true := by simpa using hc0
    have HN : Hid (R = none) := Lib.hid (by rw [← HR.out, if_neg hc0])
    have hbld := build_w0 X
    have hbld2 := build_f1 c X
    go_wp2_with (first
      | (refine wpList_store_row rfl 28 (.tmp 6) (.tmp 18) rfl w.heap.size #[.int .i64 0, .slice none 0 0, .slice none 0 0, .slice none 0 0, .int .i64 0] rfl rfl 28 _ HZA0.out (by kernel_rfl) rfl (by simp [Value.oneCell']) ?_)
      | (refine wpList_store_row rfl 40 (.tmp 7) (.tmp 20) rfl (w.heap.size + 1) #[.int .i64 0, .int .i64 c] rfl rfl 40 _ (far_row HZB0.out (by omega)) (by kernel_rfl) rfl (by simp [Value.oneCell']) ?_))
    refine bodyPost_ret (results_cellT (fn := Tryd.f13) (p := 6) (q := 7) rfl _ _ w.heap.size 28 #[.int .i64 0, .slice none 0 0, .slice none 0 0, .slice none 0 0, .int .i64 0] (0, 0) _ rfl (far_row (setRow_heap _ _ _ #[.int .i64 0, .slice none 0 0, .slice none 0 0, .slice none 0 0, .int .i64 0] _ _ HZA0.out) (by omega)) Tryd.underlying28 rfl (by kernel_rfl) (w.heap.size + 1) 40 #[.int .i64 0, .int .i64 c] (0, 0) _ rfl (setRow_heap _ _ _ #[.int .i64 0, .int .i64 c] _ _ (far_row HZB0.out (by omega))) Tryd.underlying40 rfl (by kernel_rfl)) rfl ?_
    exact ⟨below_setRow (below_setRow HB0.out (Nat.le_refl _)) (by omega), 0, 0, 0, c, _, _, _, rfl, fun _ => ⟨hc0, Int.le_refl _, by omega, rfl, rfl, rfl, rfl, rfl⟩, fun x hh => by rw [HN.out] at hh; cases hh⟩
end Go.Proofs.YtjbglgmbnjdhcaaDoor

namespace Go.Proofs.YtjbglgmbnjdhcaaDoor
open Go.RowKit

/-- A witness that a program may read. -/
structure WtIn (w : World) (x : Wit) (vp vi vr : Value) : Prop where
  p : RowE 2 encPp w vp x.ps
  t : x.tr.In w ⟨vi, vr⟩
theorem WtIn.below {w w' : World} {x : Wit} {vp vi vr : Value} (h : WtIn w x vp vi vr) (hb : Below w.heap.size w w') : WtIn w' x vp vi vr := ⟨h.p.below hb, h.t.below hb⟩
theorem OwnW.in_ {w : World} {B : Nat} {x : Wit} {vp vi vr : Value} (h : OwnW w B x vp vi vr) : WtIn w x vp vi vr := ⟨own_rowe lenPp h.p, h.t.in_⟩
theorem slP_form {w : World} {v : Value} {zs : List (Int × Int)} (h : RowE 2 encPp w v zs) : ∃ A c, v = .slice A zs.length c := by
  obtain ⟨A, c, e, _⟩ := h.reads lenPp (by omega)
  exact ⟨A, c, e⟩
set_option maxHeartbeats 4000000 in
set_option maxRecDepth 100000 in
theorem traceFitsW_any (w : World) (x : Wit) (vp vi vr : Value) (h : WtIn w x vp vi vr) (L n : Nat) :
    Calls Tryd.prog 19 #[.agg #[.int .i64 x.st, vp, vi, vr, .int .i64 x.tr.loop], .int .i64 (L : Int), .int .i64 (n : Int)] w fun e w' => e = .returned (.bool (fitW x L n)) ∧ Below w.heap.size w w' := by
  obtain ⟨AP, cP, eP⟩ := slP_form h.p
  obtain ⟨AR, cR, eR, hrm, hrr⟩ := h.t.r.at_
  have hil := h.t.i.len
  obtain ⟨AI, nI, cI, eI⟩ := slO_form h.t.i
  have hin : x.tr.init.length = nI := by
    obtain ⟨A9, c9, e9, _⟩ := h.t.i.reads lenO (by omega)
    rw [eI] at e9
    injection e9 with _ h2 _
    exact h2.symm
  simp only at eR eI
  subst eP eR eI
  obtain ⟨np, hnp⟩ : ∃ k, x.ps.length = k := ⟨_, rfl⟩
  obtain ⟨nR, hnR⟩ : ∃ k, x.tr.rows.length = k := ⟨_, rfl⟩
  obtain ⟨st, hst⟩ : ∃ k, x.st = k := ⟨_, rfl⟩
  obtain ⟨lp, hlp⟩ : ∃ k, x.tr.loop = k := ⟨_, rfl⟩
  obtain ⟨r, hr⟩ : ∃ k, fitW x L n = k := ⟨_, rfl⟩
  rw [hr]
  unfold fitW okT noT at hr
  rw [hst, hlp, hin, hnR] at hr
  rw [hst, hlp, hnp, hnR]
  rw [hnR] at hrm
  have HR := Lib.hid hr
  have HRR := Lib.hid hrr
  have HN := Lib.hid hnR
  unfold maxLen at hrm hil
  have HN1 := Lib.hid ((Blk.new w 28 #[.int .i64 st, .slice AP np cP, .slice AI nI cI, .slice AR nR cR, .int .i64 lp]).alloc (.cells #[.slice none 0 0, .slice none 0 0, .int .i64 0] 26))
  have HN2 : Hid (Blk ((w.alloc (.cells #[.int .i64 st, .slice AP np cP, .slice AI nI cI, .slice AR nR cR, .int .i64 lp] 28)).alloc (.cells #[.slice none 0 0, .slice none 0 0, .int .i64 0] 26)) (w.heap.size + 1) 26 #[.slice none 0 0, .slice none 0 0, .int .i64 0]) := Lib.hid (by
    have := Blk.new (w.alloc (.cells #[.int .i64 st, .slice AP np cP, .slice AI nI cI, .slice AR nR cR, .int .i64 lp] 28)) 26 #[.slice none 0 0, .slice none 0 0, .int .i64 0]
    simpa using this)
  have HB2 : Hid (Below w.heap.size w ((w.alloc (.cells #[.int .i64 st, .slice AP np cP, .slice AI nI cI, .slice AR nR cR, .int .i64 lp] 28)).alloc (.cells #[.slice none 0 0, .slice none 0 0, .int .i64 0] 26))) := Lib.hid (((Below.refl _ _).alloc (Nat.le_refl _) _).alloc (by simp) _)
  clear h hr hrr hnR hnp hst hlp hin
  go_enter Tryd.func19, Tryd.ntmps19
  go_upto_region 2 with (refine wpList_store_row rfl 26 (.tmp 7) (.tmp 12) rfl (w.heap.size + 1) #[.slice AI nI cI, .slice AR nR cR, .int .i64 lp] rfl rfl 26 _ HN2.out (by kernel_rfl) rfl (by simp [Value.oneCell']) ?_)
  have HA : Hid (Blk (((w.alloc (.cells #[.int .i64 st, .slice AP np cP, .slice AI nI cI, .slice AR nR cR, .int .i64 lp] 28)).alloc (.cells #[.slice none 0 0, .slice none 0 0, .int .i64 0] 26)).setRow (w.heap.size + 1) #[.slice AI nI cI, .slice AR nR cR, .int .i64 lp]) w.heap.size 28 #[.int .i64 st, .slice AP np cP, .slice AI nI cI, .slice AR nR cR, .int .i64 lp]) := Lib.hid (far_row HN1.out (by omega))
  have HT : Hid (Blk (((w.alloc (.cells #[.int .i64 st, .slice AP np cP, .slice AI nI cI, .slice AR nR cR, .int .i64 lp] 28)).alloc (.cells #[.slice none 0 0, .slice none 0 0, .int .i64 0] 26)).setRow (w.heap.size + 1) #[.slice AI nI cI, .slice AR nR cR, .int .i64 lp]) (w.heap.size + 1) 26 #[.slice AI nI cI, .slice AR nR cR, .int .i64 lp]) := Lib.hid (setRow_heap _ _ _ _ _ _ HN2.out)
  have HB : Hid (Below w.heap.size w (((w.alloc (.cells #[.int .i64 st, .slice AP np cP, .slice AI nI cI, .slice AR nR cR, .int .i64 lp] 28)).alloc (.cells #[.slice none 0 0, .slice none 0 0, .int .i64 0] 26)).setRow (w.heap.size + 1) #[.slice AI nI cI, .slice AR nR cR, .int .i64 lp])) := Lib.hid (below_setRow HB2.out (by omega))
  generalize ((w.alloc (.cells #[.int .i64 st, .slice AP np cP, .slice AI nI cI, .slice AR nR cR, .int .i64 lp] 28)).alloc (.cells #[.slice none 0 0, .slice none 0 0, .int .i64 0] 26)).setRow (w.heap.size + 1) #[.slice AI nI cI, .slice AR nR cR, .int .i64 lp] = X at HA HT HB ⊢
  clear HN1 HN2 HB2
  obtain ⟨c0, c1, c2, c3, c4⟩ := five_of HA.out
  obtain ⟨d0, d1, d2⟩ := trio_of HT.out
  by_cases hs : st = 1
  · have hsz : (st != (1 : Int)) = false := by simpa using hs
    have HR2 : Hid (decide (nI = L ∧ 1 ≤ nR ∧ nR ≤ 512 ∧ (∀ r ∈ x.tr.rows, r.length = n) ∧ -1 ≤ lp ∧ lp < (nR : Int)) = r) := Lib.hid (by rw [← HR.out, if_pos hs])
    clear hs HR
    by_cases g1 : nI = L
    · have g1z : ((nI : Int) != (L : Int)) = false := by simpa using (by omega : (nI : Int) = L)
      by_cases g2 : 1 ≤ nR
      · have g2z : ¬ (nR : Int) < 1 := by omega
        by_cases g3 : nR ≤ 512
        · have g3z : ¬ (512 : Int) < (nR : Int) := by omega
          have HR3 : Hid (decide ((∀ r ∈ x.tr.rows, r.length = n) ∧ -1 ≤ lp ∧ lp < (nR : Int)) = r) := Lib.hid (by
            rw [← HR2.out]
            apply decide_eq_decide.2
            exact ⟨fun h => ⟨g1, g2, g3, h⟩, fun h => h.2.2.2⟩)
          clear g1 g2 g3 HR2
          go_upto_region 8 with (fail)
          go_loopg [48] nR (fun j iv wx => ∃ k : Nat, k ≤ nR ∧ iv = .int .i64 k ∧ j = nR - k ∧ (∀ r ∈ x.tr.rows.take k, r.length = n) ∧ wx = X)
          case atStart => exact ⟨0, Nat.zero_le _, rfl, rfl, by simp, rfl⟩
          case round =>
            obtain ⟨k, hk, rfl, hgk, hal, rfl⟩ := hrel
            subst hgk
            have HAL := Lib.hid hal
            clear hal
            by_cases hlt : k < nR
            · obtain ⟨row, hz⟩ : ∃ row, x.tr.rows[k]? = some row := ⟨_, List.getElem?_eq_getElem (by rw [HN.out]; exact hlt)⟩
              obtain ⟨b, off, u, e, hb, hu, hru⟩ := HRR.out k row hz
              subst e
              have hcu := (HB.out.cell (p := ⟨b, off + k, none⟩) hb).trans hu
              obtain ⟨uA, uc, hue, hur⟩ := hru.reads lenO (by omega)
              subst hue
              have hk0 : (0 : Int) ≤ (k : Int) := by omega
              have hk1 : (k : Int) < (nR : Int) := by omega
              obtain ⟨un, hun⟩ : ∃ q, row.length = q := ⟨_, rfl⟩
              rw [hun] at hcu
              have HZ := Lib.hid hz
              have HUN := Lib.hid hun
              clear hz hu hru hur hun
              by_cases hn : un = n
              · have hnz : ((un : Int) != (n : Int)) = false := by simpa using (by omega : (un : Int) = n)
                have HA2 : Hid (∀ r ∈ x.tr.rows.take (k + 1), r.length = n) := Lib.hid (fun r hr => by
                  rw [List.take_add_one, HZ.out] at hr
                  rcases List.mem_append.1 hr with hr | hr
                  · exact HAL.out r hr
                  · simp only [Option.toList_some, List.mem_singleton] at hr
                    rw [hr, HUN.out]
                    exact hn)
                have HNN := Lib.hid hn
                clear hn
                go_wp2
                go_roundg (nR - (k + 1))
                case measure => omega
                case rel => exact ⟨k + 1, by omega, by go_num, rfl, HA2.out, rfl⟩
              · have hnz : ((un : Int) != (n : Int)) = true := by simpa using (by omega : ¬ (un : Int) = n)
                have HNO : Hid (r = false) := Lib.hid (by
                  rw [← HR3.out]
                  exact decide_eq_false (fun hh => hn (by rw [← HUN.out]; exact hh.1 row (List.mem_of_getElem? HZ.out))))
                go_wp2
                go_ret
                exact ⟨by rw [HNO.out]; first | rfl | simp, HB.out⟩
            · have hk1 : ¬ (k : Int) < (nR : Int) := by omega
              have hke : k = nR := by omega
              have HR4 : Hid (decide (-1 ≤ lp ∧ lp < (nR : Int)) = r) := Lib.hid (by
                rw [← HR3.out]
                apply decide_eq_decide.2
                refine ⟨fun h => ⟨fun r hr => HAL.out r ?_, h⟩, fun h => h.2⟩
                rwa [List.take_of_length_le (by rw [HN.out, hke]; exact Nat.le_refl _)])
              clear hke
              by_cases l1 : -1 ≤ lp
              · by_cases l2 : lp < (nR : Int)
                · have HF : Hid (r = true) := Lib.hid (by rw [← HR4.out]; exact decide_eq_true ⟨l1, l2⟩)
                  go_wp2
                  go_ret
                  exact ⟨by rw [HF.out]; first | rfl | simp, HB.out⟩
                · have HF : Hid (r = false) := Lib.hid (by rw [← HR4.out]; exact decide_eq_false (fun h => l2 h.2))
                  go_wp2
                  go_ret
                  exact ⟨by rw [HF.out]; first | rfl | simp, HB.out⟩
              · have HF : Hid (r = false) := Lib.hid (by rw [← HR4.out]; exact decide_eq_false (fun h => l1 h.1))
                go_wp2
                go_ret
                exact ⟨by rw [HF.out]; first | rfl | simp, HB.out⟩
        · have g3z : (512 : Int) < (nR : Int) := by omega
          have HF : Hid (r = false) := Lib.hid (by rw [← HR2.out]; exact decide_eq_false (fun h => g3 h.2.2.1))
          clear g1 g2 g3 HR2
          go_wp2
          go_ret
          exact ⟨by rw [HF.out]; first | rfl | simp, HB.out⟩
      · have g2z : (nR : Int) < 1 := by omega
        have HF : Hid (r = false) := Lib.hid (by rw [← HR2.out]; exact decide_eq_false (fun h => g2 h.2.1))
        clear g1 g2 HR2
        go_wp2
        go_ret
        exact ⟨by rw [HF.out]; first | rfl | simp, HB.out⟩
    · have g1z : ((nI : Int) != (L : Int)) = true := by simpa using (by omega : ¬ (nI : Int) = L)
      have HF : Hid (r = false) := Lib.hid (by rw [← HR2.out]; exact decide_eq_false (fun h => g1 h.1))
      clear g1 HR2
      go_wp2
      go_ret
      exact ⟨by rw [HF.out]; first | rfl | simp, HB.out⟩
  · have hsz : (st != (1 : Int)) = true := by simpa using hs
    have HR2 : Hid (decide (nI = 0 ∧ nR = 0 ∧ lp = 0) = r) := Lib.hid (by rw [← HR.out, if_neg hs])
    clear hs HR
    by_cases g1 : nI = 0
    · have g1z : ((nI : Int) == (0 : Int)) = true := by simpa using g1
      by_cases g2 : nR = 0
      · have g2z : ((nR : Int) == (0 : Int)) = true := by simpa using g2
        have HF : Hid (r = (lp == 0)) := Lib.hid (by
          rw [← HR2.out]
          by_cases g3 : lp = 0
          · rw [decide_eq_true ⟨g1, g2, g3⟩, g3]; rfl
          · rw [decide_eq_false (fun h => g3 h.2.2)]
            exact (beq_eq_false_iff_ne.2 g3).symm)
        clear g1 g2 HR2
        go_wp2
        go_ret
        exact ⟨by rw [HF.out]; first | rfl | simp, HB.out⟩
      · have g2z : ((nR : Int) == (0 : Int)) = false := by simpa using g2
        have HF : Hid (r = false) := Lib.hid (by rw [← HR2.out]; exact decide_eq_false (fun h => g2 h.2.1))
        clear g1 g2 HR2
        go_wp2
        go_ret
        exact ⟨by rw [HF.out]; first | rfl | simp, HB.out⟩
    · have g1z : ((nI : Int) == (0 : Int)) = false := by simpa using g1
      have HF : Hid (r = false) := Lib.hid (by rw [← HR2.out]; exact decide_eq_false (fun h => g1 h.1))
      clear g1 HR2
      go_wp2
      go_ret
      exact ⟨by rw [HF.out]; first | rfl | simp, HB.out⟩
theorem cntB_iff (L n : Int) : cntB L n = decide (0 ≤ L ∧ L ≤ 16384 ∧ 0 ≤ n ∧ n ≤ 16384) := by
  unfold cntB
  rw [← Bool.decide_and]
  apply decide_eq_decide.2
  constructor
  · rintro ⟨⟨a, b⟩, c, d⟩; exact ⟨a, b, c, d⟩
  · rintro ⟨a, b, c, d⟩; exact ⟨⟨a, b⟩, c, d⟩
set_option maxHeartbeats 4000000 in
set_option maxRecDepth 100000 in
theorem check_any (w : World) (x : Wit) (vp vi vr : Value) (h : WtIn w x vp vi vr) (hw : ∀ p ∈ x.ps, (0 ≤ p.1 ∧ p.1 ≤ 255) ∧ I64 p.2) (L n : Int) :
    Calls Tryd.prog 9 #[.agg #[.int .i64 x.st, vp, vi, vr, .int .i64 x.tr.loop], .int .i64 L, .int .i64 n] w fun e w' => e = .returned (.int .i64 (witE x L n)) ∧ Below w.heap.size w w' := by
  have HIN := Lib.hid (fun (wx : World) (hb : Below w.heap.size w wx) => h.below hb)
  have HAR := Lib.hid (fun (wx : World) => areCounts_any wx L n)
  have HAP := Lib.hid (fun (wx : World) (hb : Below w.heap.size w wx) => areProps_any wx vp x.ps (h.p.below hb) hw)
  have HTF := Lib.hid (fun (wx : World) (hb : Below w.heap.size w wx) => traceFitsW_any wx x vp vi vr (h.below hb))
  obtain ⟨AP, cP, eP⟩ := slP_form h.p
  obtain ⟨AR, cR, eR, _, _⟩ := h.t.r.at_
  obtain ⟨AI, nI, cI, eI⟩ := slO_form h.t.i
  simp only at eR eI
  subst eP eR eI
  obtain ⟨nR, hnR⟩ : ∃ k, x.tr.rows.length = k := ⟨_, rfl⟩
  obtain ⟨np, hnp⟩ : ∃ k, x.ps.length = k := ⟨_, rfl⟩
  obtain ⟨st, hst⟩ : ∃ k, x.st = k := ⟨_, rfl⟩
  obtain ⟨lp, hlp⟩ : ∃ k, x.tr.loop = k := ⟨_, rfl⟩
  obtain ⟨r, hr⟩ : ∃ k, witE x L n = k := ⟨_, rfl⟩
  rw [hr]
  unfold witE at hr
  rw [hst, hnp] at hr
  rw [hst, hlp, hnR] at HTF
  rw [hnp] at HAP HTF
  rw [hst, hlp, hnR, hnp]
  have HR := Lib.hid hr
  have HC := cntB_iff L n
  have HA := Lib.hid (Blk.new w 28 #[.int .i64 st, .slice AP np cP, .slice AI nI cI, .slice AR nR cR, .int .i64 lp])
  have HB : Hid (Below w.heap.size w (w.alloc (.cells #[.int .i64 st, .slice AP np cP, .slice AI nI cI, .slice AR nR cR, .int .i64 lp] 28))) := Lib.hid ((Below.refl _ _).alloc (Nat.le_refl _) _)
  clear h hr hw hnR hnp hst hlp HIN
  go_enter Tryd.func9, Tryd.ntmps9
  go_upto_region 1 with (fail)
  generalize w.alloc (.cells #[.int .i64 st, .slice AP np cP, .slice AI nI cI, .slice AR nR cR, .int .i64 lp] 28) = X at HA HB ⊢
  obtain ⟨c0, c1, c2, c3, c4⟩ := five_of HA.out
  by_cases hc : 0 ≤ L ∧ L ≤ 16384 ∧ 0 ≤ n ∧ n ≤ 16384
  · rw [decide_eq_true hc] at HC
    rw [HC] at HAR
    have HR1 := HR.out
    rw [if_neg (fun h => h hc)] at HR1
    have HLN := Lib.hid hc
    by_cases h1 : st < 0
    · have HF : Hid (r = 120) := Lib.hid (by rw [← HR1, if_pos (.inl h1)])
      clear HR1 HC hc
      go_wp2_with (go_at_call 17; refine (HAR.out _).mono ?_; rintro e w' ⟨rfl, rfl⟩)
      go_ret
      exact ⟨by rw [HF.out]; first | rfl | simp, HB.out⟩
    · by_cases h2 : 2 < st
      · have HF : Hid (r = 120) := Lib.hid (by rw [← HR1, if_pos (.inr h2)])
        clear HR1 HC hc
        go_wp2_with (go_at_call 17; refine (HAR.out _).mono ?_; rintro e w' ⟨rfl, rfl⟩)
        go_ret
        exact ⟨by rw [HF.out]; first | rfl | simp, HB.out⟩
      · rw [if_neg (fun h => h.elim h1 h2)] at HR1
        by_cases h3 : 16384 < np
        · have h3z : (16384 : Int) < (np : Int) := by omega
          have HF : Hid (r = 2) := Lib.hid (by rw [← HR1, if_pos h3])
          clear HR1 HC hc h3
          go_wp2_with (go_at_call 17; refine (HAR.out _).mono ?_; rintro e w' ⟨rfl, rfl⟩)
          go_ret
          exact ⟨by rw [HF.out]; first | rfl | simp, HB.out⟩
        · have h3z : ¬ (16384 : Int) < (np : Int) := by omega
          rw [if_neg h3] at HR1
          have HR2 := Lib.hid HR1
          clear HR1 HC hc h3 HR
          go_upto_region 7 with (go_at_call 17; refine (HAR.out _).mono ?_; rintro e w' ⟨rfl, rfl⟩)
          cases hok : okPs x.ps with
          | false =>
            rw [hok] at HAP
            have HF : Hid (r = 121) := Lib.hid (by rw [← HR2.out, if_pos hok])
            clear hok
            go_wp2_with (go_at_call 18; refine (HAP.out X HB.out).mono ?_; rintro e w' ⟨rfl, hb⟩; have HB2 := Lib.hid (bt HB.out (Nat.le_refl _) hb); clear hb)
            go_ret
            exact ⟨by rw [HF.out]; first | rfl | simp, HB2.out⟩
          | true =>
            rw [hok] at HAP
            have HR3 := HR2.out
            rw [if_neg (by rw [hok]; decide)] at HR3
            obtain ⟨Ln, rfl⟩ : ∃ k : Nat, L = k := ⟨L.toNat, by have := HLN.out; omega⟩
            obtain ⟨nn, rfl⟩ : ∃ k : Nat, n = k := ⟨n.toNat, by have := HLN.out; omega⟩
            rw [Int.toNat_natCast, Int.toNat_natCast] at HR3
            have HR4 := Lib.hid HR3
            have HTF2 := Lib.hid (fun (wx : World) (hb : Below w.heap.size w wx) => HTF.out wx hb Ln nn)
            clear hok HR3 HR2 HTF
            go_upto_region 9 with (go_at_call 18; refine (HAP.out X HB.out).mono ?_; rintro e w' ⟨rfl, hb⟩; have HB2 := Lib.hid (bt HB.out (Nat.le_refl _) hb); have HA2 := Lib.hid (Blk.below HA.out hb (Blk.lt HA.out)); clear hb c0 c1 c2 c3 c4)
            obtain ⟨c0, c1, c2, c3, c4⟩ := five_of HA2.out
            cases hf : fitW x Ln nn with
            | false =>
              rw [hf] at HTF2
              have HF : Hid (r = 4) := Lib.hid (by rw [← HR4.out, if_pos hf])
              clear hf
              go_wp2_with (go_at_call 19; refine (HTF2.out _ HB2.out).mono ?_; rintro e w9 ⟨rfl, hb⟩; have HB3 := Lib.hid (bt HB2.out (Nat.le_refl _) hb); clear hb)
              go_ret
              exact ⟨by rw [HF.out]; first | rfl | simp, HB3.out⟩
            | true =>
              rw [hf] at HTF2
              have HF : Hid (r = 0) := Lib.hid (by rw [← HR4.out, if_neg (by rw [hf]; decide)])
              clear hf
              go_wp2_with (go_at_call 19; refine (HTF2.out _ HB2.out).mono ?_; rintro e w9 ⟨rfl, hb⟩; have HB3 := Lib.hid (bt HB2.out (Nat.le_refl _) hb); clear hb)
              go_ret
              exact ⟨by rw [HF.out]; first | rfl | simp, HB3.out⟩
  · rw [decide_eq_false hc] at HC
    rw [HC] at HAR
    have HF : Hid (r = 1) := Lib.hid (by rw [← HR.out, if_pos hc])
    clear HR HC hc
    go_wp2_with (go_at_call 17; refine (HAR.out _).mono ?_; rintro e w' ⟨rfl, rfl⟩)
    go_ret
    exact ⟨by rw [HF.out]; first | rfl | simp, HB.out⟩
end Go.Proofs.YtjbglgmbnjdhcaaDoor
