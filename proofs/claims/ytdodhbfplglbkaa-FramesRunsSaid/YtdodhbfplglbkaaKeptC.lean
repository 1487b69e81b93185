/- The contract of the statements' own KeptCircuit: a circuit that was lent, and has not turned, is found as it was. -/
import Derived.Test.YtdodhbfplglbkaaLendC
import Derived.Test.YtdodhbfplglbkaaSameD
namespace Go.Proofs.Ytdodhbfplglbkaa
open Go.RowKit

set_option maxHeartbeats 8000000 in
set_option maxRecDepth 100000 in
theorem KeptCircuit_any (w : World) (B : Nat) (V U : CV) (C : Circ) (us : List Value) (h : LentC w B C us V) (h' : C.In w U) :
    Calls Try.prog 19 #[V.val C.max, U.val C.max] w fun e w' => e = .returned (.bool true) ∧ Below w.heap.size w w' := by
  obtain ⟨m, hmm⟩ : ∃ m, C.max = m := ⟨_, rfl⟩
  have HMM := Lib.hid hmm
  obtain ⟨Vi, Vl, Vo, Vb, Vc, Vj, Vf, Va, Vs, Vt⟩ := V
  obtain ⟨Ui, Ul, Uo, Ub, Uc, Uj, Uf, Ua, Us, Ut⟩ := U
  obtain ⟨gl, kl, e1, hkl, hml, _, hgl, p0, p1, p2⟩ := h.l.mark
  obtain ⟨ga, ka, e2, hka, hma, _, hga, p3, p4, p5⟩ := h.a.mark
  obtain ⟨Al, cl, e3, _, _, _⟩ := h'.l
  obtain ⟨Aa, ca, e4, _, _, _⟩ := h'.a
  simp only at e1 e2 e3 e4
  subst e1 e2 e3 e4
  obtain ⟨W0, hW0⟩ : ∃ W0, W0 = (w.alloc (.cells #[.int .i64 m, Vi, .slice (some ⟨gl, 0, none⟩) C.latches.length kl, Vo, Vb, Vc, Vj, Vf, .slice (some ⟨ga, 0, none⟩) C.ands.length ka, Vs, Vt] 29)).alloc (.cells #[.int .i64 m, Ui, .slice Al C.latches.length cl, Uo, Ub, Uc, Uj, Uf, .slice Aa C.ands.length ca, Us, Ut] 29) := ⟨_, rfl⟩
  have HB0 : Hid (Below w.heap.size w W0) := Lib.hid (by rw [hW0]; exact ((Below.refl w.heap.size w).alloc (Nat.le_refl _) _).alloc (by simp) _)
  have HV : Hid (∀ wz, Below W0.heap.size W0 wz → LentC wz B C us ⟨Vi, .slice (some ⟨gl, 0, none⟩) C.latches.length kl, Vo, Vb, Vc, Vj, Vf, .slice (some ⟨ga, 0, none⟩) C.ands.length ka, Vs, Vt⟩ ∧ C.In wz ⟨Ui, .slice Al C.latches.length cl, Uo, Ub, Uc, Uj, Uf, .slice Aa C.ands.length ca, Us, Ut⟩ ∧ Below w.heap.size w wz) := Lib.hid (fun wz hb => ⟨(h.below HB0.out).below hb, (h'.below HB0.out).below hb, HB0.out.trans (hb.mono HB0.out.size)⟩)
  have HCL : Hid (∀ wz, Below W0.heap.size W0 wz → wz.cell? ⟨w.heap.size, 0, none⟩ = some (.int .i64 m) ∧ wz.cell? ⟨w.heap.size, 1, none⟩ = some (Vi) ∧ wz.cell? ⟨w.heap.size, 2, none⟩ = some (.slice (some ⟨gl, 0, none⟩) C.latches.length kl) ∧ wz.cell? ⟨w.heap.size, 3, none⟩ = some (Vo) ∧ wz.cell? ⟨w.heap.size, 4, none⟩ = some (Vb) ∧ wz.cell? ⟨w.heap.size, 5, none⟩ = some (Vc) ∧ wz.cell? ⟨w.heap.size, 6, none⟩ = some (Vj) ∧ wz.cell? ⟨w.heap.size, 7, none⟩ = some (Vf) ∧ wz.cell? ⟨w.heap.size, 8, none⟩ = some (.slice (some ⟨ga, 0, none⟩) C.ands.length ka) ∧ wz.cell? ⟨w.heap.size, 9, none⟩ = some (Vs) ∧ wz.cell? ⟨w.heap.size, 10, none⟩ = some (Vt) ∧ wz.cell? ⟨w.heap.size + 1, 0, none⟩ = some (.int .i64 m) ∧ wz.cell? ⟨w.heap.size + 1, 1, none⟩ = some (Ui) ∧ wz.cell? ⟨w.heap.size + 1, 2, none⟩ = some (.slice Al C.latches.length cl) ∧ wz.cell? ⟨w.heap.size + 1, 3, none⟩ = some (Uo) ∧ wz.cell? ⟨w.heap.size + 1, 4, none⟩ = some (Ub) ∧ wz.cell? ⟨w.heap.size + 1, 5, none⟩ = some (Uc) ∧ wz.cell? ⟨w.heap.size + 1, 6, none⟩ = some (Uj) ∧ wz.cell? ⟨w.heap.size + 1, 7, none⟩ = some (Uf) ∧ wz.cell? ⟨w.heap.size + 1, 8, none⟩ = some (.slice Aa C.ands.length ca) ∧ wz.cell? ⟨w.heap.size + 1, 9, none⟩ = some (Us) ∧ wz.cell? ⟨w.heap.size + 1, 10, none⟩ = some (Ut) ∧ wz.cell? ⟨gl, C.latches.length * 3, none⟩ = some (.int .i64 (-77)) ∧ wz.cell? ⟨gl, C.latches.length * 3 + 1, none⟩ = some (.int .i64 0) ∧ wz.cell? ⟨gl, C.latches.length * 3 + 2, none⟩ = some (.int .i64 0) ∧ wz.cell? ⟨ga, C.ands.length * 3, none⟩ = some (.int .i64 (-77)) ∧ wz.cell? ⟨ga, C.ands.length * 3 + 1, none⟩ = some (.int .i64 0) ∧ wz.cell? ⟨ga, C.ands.length * 3 + 2, none⟩ = some (.int .i64 0)) := Lib.hid (fun wz hb => by
    have h1 : Blk W0 w.heap.size 29 #[.int .i64 m, Vi, .slice (some ⟨gl, 0, none⟩) C.latches.length kl, Vo, Vb, Vc, Vj, Vf, .slice (some ⟨ga, 0, none⟩) C.ands.length ka, Vs, Vt] := by rw [hW0]; exact (Blk.new w _ _).alloc _
    have h2 : Blk W0 (w.heap.size + 1) 29 #[.int .i64 m, Ui, .slice Al C.latches.length cl, Uo, Ub, Uc, Uj, Uf, .slice Aa C.ands.length ca, Us, Ut] := by
      rw [hW0]
      have := Blk.new (w.alloc (.cells #[.int .i64 m, Vi, .slice (some ⟨gl, 0, none⟩) C.latches.length kl, Vo, Vb, Vc, Vj, Vf, .slice (some ⟨ga, 0, none⟩) C.ands.length ka, Vs, Vt] 29)) 29 #[.int .i64 m, Ui, .slice Al C.latches.length cl, Uo, Ub, Uc, Uj, Uf, .slice Aa C.ands.length ca, Us, Ut]
      rwa [show (w.alloc (.cells #[.int .i64 m, Vi, .slice (some ⟨gl, 0, none⟩) C.latches.length kl, Vo, Vb, Vc, Vj, Vf, .slice (some ⟨ga, 0, none⟩) C.ands.length ka, Vs, Vt] 29)).heap.size = w.heap.size + 1 by simp] at this
    have k1 := h1.below hb h1.lt
    have k2 := h2.below hb h2.lt
    have hbw : Below w.heap.size w wz := HB0.out.trans (hb.mono HB0.out.size)
    have mk : ∀ (g j : Nat) (u : Value), g < w.heap.size → w.cell? ⟨g, j, none⟩ = some u → wz.cell? ⟨g, j, none⟩ = some u := fun g j u hg hu => (hbw.cell (p := ⟨g, j, none⟩) hg).trans hu
    exact ⟨k1.cell 0, k1.cell 1, k1.cell 2, k1.cell 3, k1.cell 4, k1.cell 5, k1.cell 6, k1.cell 7, k1.cell 8, k1.cell 9, k1.cell 10, k2.cell 0, k2.cell 1, k2.cell 2, k2.cell 3, k2.cell 4, k2.cell 5, k2.cell 6, k2.cell 7, k2.cell 8, k2.cell 9, k2.cell 10, mk _ _ _ hgl p0, mk _ _ _ hgl p1, mk _ _ _ hgl p2, mk _ _ _ hga p3, mk _ _ _ hga p4, mk _ _ _ hga p5⟩)
  have HBX : Hid (Below W0.heap.size W0 ((w.alloc (.cells #[.int .i64 m, Vi, .slice (some ⟨gl, 0, none⟩) C.latches.length kl, Vo, Vb, Vc, Vj, Vf, .slice (some ⟨ga, 0, none⟩) C.ands.length ka, Vs, Vt] 29)).alloc (.cells #[.int .i64 m, Ui, .slice Al C.latches.length cl, Uo, Ub, Uc, Uj, Uf, .slice Aa C.ands.length ca, Us, Ut] 29))) := Lib.hid (by rw [← hW0]; exact Below.refl _ _)
  have HK : Hid (∀ wz, Below W0.heap.size W0 wz → ∀ (v u : Value), (∃ zs : List Int, Lent wz B v zs ∧ Ints wz u zs) → Calls Try.prog 20 #[v, u] wz fun e w' => e = .returned (.bool true) ∧ Below wz.heap.size wz w') := Lib.hid (fun wz _ v u hz => by
    obtain ⟨zs, h1, h2⟩ := hz
    exact KeptInts_any wz B v u zs h1 h2)
  have HS : Hid (∀ wz, Below W0.heap.size W0 wz → Calls Try.prog 55 #[.agg #[.int .i64 m, Vi, .slice (some ⟨gl, 0, none⟩) C.latches.length kl, Vo, Vb, Vc, Vj, Vf, .slice (some ⟨ga, 0, none⟩) C.ands.length ka, Vs, Vt], .agg #[.int .i64 m, Ui, .slice Al C.latches.length cl, Uo, Ub, Uc, Uj, Uf, .slice Aa C.ands.length ca, Us, Ut]] wz fun e w' => e = .returned (.bool true) ∧ Below wz.heap.size wz w') := Lib.hid (fun wz hb => by
    have hs := SameCircuit_any wz _ _ C C (HV.out wz hb).1.in_ (HV.out wz hb).2.1
    rw [hmm] at hs
    refine hs.mono ?_
    rintro e w' ⟨r, rfl, hr, hb'⟩
    exact ⟨by rw [hr.2 rfl], hb'⟩)
  rw [hmm]
  unfold maxLen at hml hma
  have hq1 : (C.latches.length : Int) + 1 ≤ (kl : Int) := by omega
  have hq2 : (C.ands.length : Int) + 1 ≤ (ka : Int) := by omega
  have hq3 : (0 : Int) ≤ (C.latches.length : Int) := Int.natCast_nonneg _
  have hq4 : (0 : Int) ≤ (C.ands.length : Int) := Int.natCast_nonneg _
  have hw1 : IntKind.i64.wrap ((C.latches.length : Int) + 1) = (C.latches.length : Int) + 1 := by
    simp [IntKind.wrap, IntKind.bits, IntKind.signed]; omega
  have hw2 : IntKind.i64.wrap ((C.ands.length : Int) + 1) = (C.ands.length : Int) + 1 := by
    simp [IntKind.wrap, IntKind.bits, IntKind.signed]; omega
  have hq5 : ((C.latches.length : Int) + 1).toNat = C.latches.length + 1 := by omega
  have hq6 : ((C.ands.length : Int) + 1).toNat = C.ands.length + 1 := by omega
  have hq7 : (0 : Int) ≤ (C.latches.length : Int) + 1 := by omega
  have hq8 : (0 : Int) ≤ (C.ands.length : Int) + 1 := by omega
  have hq9 : (C.latches.length : Int) < ((C.latches.length + 1 : Nat) : Int) := by omega
  have hq10 : (C.ands.length : Int) < ((C.ands.length + 1 : Nat) : Int) := by omega
  have hq11 : (C.latches.length : Int) < (C.latches.length : Int) + 1 := by omega
  have hq12 : (C.ands.length : Int) < (C.ands.length : Int) + 1 := by omega
  clear h h' hmm hW0 p0 p1 p2 p3 p4 p5 hgl hga
  obtain ⟨c0, c1, c2, c3, c4, c5, c6, c7, c8, c9, c10, d0, d1, d2, d3, d4, d5, d6, d7, d8, d9, d10, m0, m1, m2, m3, m4, m5⟩ := HCL.out _ HBX.out
  go_enter Try.func19, Try.ntmps19
  go_upto_region 2 with (go_at_call 20; go_loud (refine (HK.out _ HBX.out _ _ (by first | exact ⟨_, (HV.out _ HBX.out).1.i, (HV.out _ HBX.out).2.1.i⟩ | exact ⟨_, (HV.out _ HBX.out).1.o, (HV.out _ HBX.out).2.1.o⟩ | exact ⟨_, (HV.out _ HBX.out).1.b, (HV.out _ HBX.out).2.1.b⟩ | exact ⟨_, (HV.out _ HBX.out).1.c, (HV.out _ HBX.out).2.1.c⟩ | exact ⟨_, (HV.out _ HBX.out).1.f, (HV.out _ HBX.out).2.1.f⟩)).mono ?_; rintro e wk ⟨rfl, hbk⟩; have HBY := Lib.hid (bt HBX.out (Nat.le_refl _) hbk); clear HBX hbk c0 c1 c2 c3 c4 c5 c6 c7 c8 c9 c10 d0 d1 d2 d3 d4 d5 d6 d7 d8 d9 d10 m0 m1 m2 m3 m4 m5; have HBX := HBY; clear HBY; obtain ⟨c0, c1, c2, c3, c4, c5, c6, c7, c8, c9, c10, d0, d1, d2, d3, d4, d5, d6, d7, d8, d9, d10, m0, m1, m2, m3, m4, m5⟩ := HCL.out _ HBX.out))
  refine wp_region_quiet (C := fun wz => Below W0.heap.size W0 wz) (by kernel_rfl) (by kernel_rfl) HBX.out.drew ?_
  clear c0 c1 c2 c3 c4 c5 c6 c7 c8 c9 c10 d0 d1 d2 d3 d4 d5 d6 d7 d8 d9 d10 m0 m1 m2 m3 m4 m5
  simp only
  repeat
    first
      | go_big_quiet_skip
      | (refine wpQuiet_step (fun K hK => ?_)
         rw [if_pos (by rfl)]
         unfold Oper.quiet
         apply Exists.intro
         refine And.intro (fun wx hWx => ?_) (hK _ ?_)
         · obtain ⟨c0, c1, c2, c3, c4, c5, c6, c7, c8, c9, c10, d0, d1, d2, d3, d4, d5, d6, d7, d8, d9, d10, m0, m1, m2, m3, m4, m5⟩ := HCL.out wx hWx
           first
             | (go_simp; exact rfl)
             | (go_simp; go_at_call 55; refine (HS.out _ hWx).mono ?_; rintro e w' ⟨rfl, hb'⟩; exact ⟨rfl, bt hWx (Nat.le_refl _) hb'⟩)
         clear hK K
         try simp only [Act.put, List.setIfInBounds_toArray, List.set_cons_zero, List.set_cons_succ])
  refine wpQuiet_nil ?_
  intro w5 hW5
  have HW5 := Lib.hid hW5
  clear hW5
  go_wp2
  go_ret
  exact ⟨rfl, (HV.out w5 HW5.out).2.2⟩
end Go.Proofs.Ytdodhbfplglbkaa
