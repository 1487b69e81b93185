/- Renumber and IsBinary, the program's and the document's, of any circuit: one contract each. -/
import Derived.Test.YtjakckfmdfpekaaRnC
import Derived.Test.YtjakckfmdfpekaaRnD
import Derived.Test.YtjakckfmdfpekaaRenW
import Derived.Test.YtjakckfmdfpekaaBin
namespace Go.Proofs.Ytjakckfmdfpekaa
open Go.RowKit

def rnoV : CV := ⟨.slice none 0 0, .slice none 0 0, .slice none 0 0, .slice none 0 0, .slice none 0 0, .slice none 0 0, .slice none 0 0, .slice none 0 0, .slice none 0 0, .slice none 0 0⟩
set_option maxHeartbeats 2000000 in
set_option maxRecDepth 100000 in
theorem rRenumber_no (w : World) (V : CV) (C : Circ) (h : C.In w V) (ok : C.Ok) (htn : ∀ s ∈ C.comments, s.size ≤ maxLen) (hz : (checkR C).2 ≠ 0) :
    Calls Try.prog 19 #[V.val C.max] w fun e w' => Below w.heap.size w w' ∧ e = .returned (.tuple #[.agg #[.int .i64 0, .slice none 0 0, .slice none 0 0, .slice none 0 0, .slice none 0 0, .slice none 0 0, .slice none 0 0, .slice none 0 0, .slice none 0 0, .slice none 0 0, .slice none 0 0], .slice none 0 0, .int .i64 (checkR C).2]) := by
  obtain ⟨m, hmm⟩ : ∃ m, C.max = m := ⟨_, rfl⟩
  obtain ⟨Vi, Vl, Vo, Vb, Vc, Vj, Vf, Va, Vs, Vt⟩ := V
  obtain ⟨W0, hW0⟩ : ∃ W0, W0 = (w.alloc (.cells #[.int .i64 m, Vi, Vl, Vo, Vb, Vc, Vj, Vf, Va, Vs, Vt] 29)).alloc (.cells #[.int .i64 0, .slice none 0 0, .slice none 0 0, .slice none 0 0, .slice none 0 0, .slice none 0 0, .slice none 0 0, .slice none 0 0, .slice none 0 0, .slice none 0 0, .slice none 0 0] 29) := ⟨_, rfl⟩
  have HB0 : Hid (Below w.heap.size w W0) := Lib.hid (by rw [hW0]; exact ((Below.refl w.heap.size w).alloc (Nat.le_refl _) _).alloc (by simp) _)
  have h1 : Blk W0 (w.heap.size + 1) 29 #[.int .i64 0, .slice none 0 0, .slice none 0 0, .slice none 0 0, .slice none 0 0, .slice none 0 0, .slice none 0 0, .slice none 0 0, .slice none 0 0, .slice none 0 0, .slice none 0 0] := by
    rw [hW0]
    have := Blk.new (w.alloc (.cells #[.int .i64 m, Vi, Vl, Vo, Vb, Vc, Vj, Vf, Va, Vs, Vt] 29)) 29 #[.int .i64 0, .slice none 0 0, .slice none 0 0, .slice none 0 0, .slice none 0 0, .slice none 0 0, .slice none 0 0, .slice none 0 0, .slice none 0 0, .slice none 0 0, .slice none 0 0]
    simpa using this
  have hord := rOrder_any W0 _ C (h.below HB0.out) ok htn
  obtain ⟨r, hr⟩ : ∃ r, (checkR C).2 = r := ⟨_, rfl⟩
  rw [hr, hmm] at hord
  rw [hr] at hz ⊢
  rw [hmm]
  have hq : (r != 0) = true := by simpa using hz
  have HZ := Lib.hid hz
  have HORD := Lib.hid hord
  have H1 := Lib.hid h1
  have HW0 := Lib.hid hW0
  clear h ok hz hr hmm h1 hord hW0
  rw [HW0.out] at HORD
  go_enter Try.func19, Try.ntmps19
  go_upto_region 3 with (go_at_call 13; go_loud (refine HORD.out.mono ?_; rw [← HW0.out]; rintro e w1 ⟨hb1, vg, out, rfl, _, _⟩; have HB1 := Lib.hid hb1; have hbz := H1.out.below hb1 H1.out.lt; have HBZ := Lib.hid hbz; clear hb1 hbz))
  obtain ⟨z0, z1, z2, z3, z4, z5, z6, z7, z8, z9, z10⟩ := box_of HBZ.out
  obtain ⟨y0, y1, y2, y3, y4, y5, y6, y7, y8, y9, y10⟩ := blk_frozen11 HBZ.out
  have hR9 : Blk (set11 w1 (w.heap.size + 1) (.int .i64 0) (.slice none 0 0) (.slice none 0 0) (.slice none 0 0) (.slice none 0 0) (.slice none 0 0) (.slice none 0 0) (.slice none 0 0) (.slice none 0 0) (.slice none 0 0) (.slice none 0 0)) (w.heap.size + 1) 29 #[.int .i64 0, .slice none 0 0, .slice none 0 0, .slice none 0 0, .slice none 0 0, .slice none 0 0, .slice none 0 0, .slice none 0 0, .slice none 0 0, .slice none 0 0, .slice none 0 0] := set11_blk HBZ.out (.int .i64 0) (.slice none 0 0) (.slice none 0 0) (.slice none 0 0) (.slice none 0 0) (.slice none 0 0) (.slice none 0 0) (.slice none 0 0) (.slice none 0 0) (.slice none 0 0) (.slice none 0 0)
  have hB9 : Below w.heap.size w (set11 w1 (w.heap.size + 1) (.int .i64 0) (.slice none 0 0) (.slice none 0 0) (.slice none 0 0) (.slice none 0 0) (.slice none 0 0) (.slice none 0 0) (.slice none 0 0) (.slice none 0 0) (.slice none 0 0) (.slice none 0 0)) := set11_below (bt HB0.out (Nat.le_refl _) HB1.out) (Nat.le_succ _) (.int .i64 0) (.slice none 0 0) (.slice none 0 0) (.slice none 0 0) (.slice none 0 0) (.slice none 0 0) (.slice none 0 0) (.slice none 0 0) (.slice none 0 0) (.slice none 0 0) (.slice none 0 0)
  obtain ⟨wq, hwq⟩ : ∃ wq, wq = (set11 w1 (w.heap.size + 1) (.int .i64 0) (.slice none 0 0) (.slice none 0 0) (.slice none 0 0) (.slice none 0 0) (.slice none 0 0) (.slice none 0 0) (.slice none 0 0) (.slice none 0 0) (.slice none 0 0) (.slice none 0 0)) := ⟨_, rfl⟩
  rw [← hwq] at hR9 hB9
  unfold set11 at hwq
  have HR9 := Lib.hid hR9
  have HB9 := Lib.hid hB9
  have HWQ := Lib.hid hwq
  clear hR9 hB9 hwq
  go_wp2
  rw [← HWQ.out]
  refine bodyPost_ret (results_cell_two (fn := Try.f19) (p := 2) (q := 3) (r := 4) rfl _ wq (w.heap.size + 1) 29 #[.int .i64 0, .slice none 0 0, .slice none 0 0, .slice none 0 0, .slice none 0 0, .slice none 0 0, .slice none 0 0, .slice none 0 0, .slice none 0 0, .slice none 0 0, .slice none 0 0] (0, 0) _ rfl HR9.out Try.underlying29 rfl (by kernel_rfl) _ _ rfl rfl) rfl ?_
  exact ⟨HB9.out, rfl⟩
end Go.Proofs.Ytjakckfmdfpekaa

namespace Go.Proofs.Ytjakckfmdfpekaa
open Go.RowKit

/-- The circuit of nothing. -/
def zC : Circ := ⟨0, [], [], [], [], [], [], [], [], [], []⟩
/-- What is answered: the renumbered circuit and the map, or nothing. -/
def dC (C : Circ) (out : List Int) : Circ := if (checkR C).2 = 0 then renC C out else zC
def dM (C : Circ) (out : List Int) : List Int := if (checkR C).2 = 0 then newM C out else []
def GoodO (C : Circ) (out : List Int) : Prop := (checkR C).2 = 0 → Greedy (usesC C) out ∧ out.length = C.ands.length
theorem good_same {C : Circ} {o1 o2 : List Int} (h1 : GoodO C o1) (h2 : GoodO C o2) : dC C o1 = dC C o2 ∧ dM C o1 = dM C o2 := by
  unfold dC dM
  by_cases h : (checkR C).2 = 0
  · have e := greedy_same _ (h1 h).1 (h2 h).1 (h1 h).2 (h2 h).2
    subst e
    exact ⟨rfl, rfl⟩
  · rw [if_neg h, if_neg h, if_neg h, if_neg h]
    exact ⟨rfl, rfl⟩
theorem own_nil (w : World) (B : Nat) (t : TypeId) (k : Nat) : w.ownsRow B t k (.slice none 0 0) 0 [] := ⟨by simp, .inl ⟨rfl, rfl⟩⟩
theorem noV_cop (w : World) (B : Nat) : Cop w B noV [] zC := by
  refine ⟨⟨fun p hp => ?_, fun i j a b hij hi hj g hg => ?_⟩, rfl, own_nil _ _ _ _, own_nil _ _ _ _, own_nil _ _ _ _, own_nil _ _ _ _, own_nil _ _ _ _⟩
  · have : p.1 = .slice none 0 0 ∧ p.2 = [] := by
      simp [five, noV, zC] at hp
      rw [hp]; exact ⟨rfl, rfl⟩
    obtain ⟨v, L⟩ := p
    obtain ⟨rfl, rfl⟩ := this
    exact own_nil _ _ _ _
  · have hm := List.mem_of_getElem? hi
    simp [five, noV, zC] at hm
    rw [hm] at hg
    simp [Value.ownBlock] at hg
theorem noV_copB (w : World) (B : Nat) : CopB w B zC [] noV :=
  ⟨own_nil _ _ _ _, own_nil _ _ _ _, own_nil _ _ _ _, own_nil _ _ _ _, own_nil _ _ _ _, ⟨rfl, own_nil _ _ _ _, fun i u zs hu _ => by simp at hu⟩, own_nil _ _ _ _, own_nil _ _ _ _, own_nil _ _ _ _, own_nil _ _ _ _⟩
theorem Renumber_all (w : World) (V : CV) (C : Circ) (h : C.In w V) (ok : C.Ok) (rm : C.Room) :
    Calls Try.prog 18 #[V.val C.max] w fun e w' => Below w.heap.size w w' ∧ ∃ V' us vm out B', e = .returned (.tuple #[CV.val V' (dC C out).max, vm, .int .i64 (checkR C).2]) ∧ GoodO C out ∧
      w.heap.size ≤ B' ∧ Cop w' B' V' us (dC C out) ∧ (∀ g, vm.ownBlock = some g → g < B') ∧ w'.ownsRow w.heap.size 3 1 vm (dM C out).length ((dM C out).map (Value.int .i64)) := by
  by_cases hz : (checkR C).2 = 0
  · refine (Renumber_ok2 w V C h ok rm hz).mono ?_
    rintro e w' ⟨hb, V', us, vm, out, B', he, hg, hl, ⟨h1, h2, h3⟩, ho⟩
    refine ⟨hb, V', us, vm, out, B', ?_, fun _ => ⟨hg, hl⟩, h1, ?_, h3, ?_⟩
    · rw [he, hz]; unfold dC; rw [if_pos hz]
    · unfold dC; rw [if_pos hz]; exact h2
    · unfold dM; rw [if_pos hz]; exact ho
  · refine (Renumber_no w V C h ok hz).mono ?_
    rintro e w' ⟨hb, he⟩
    refine ⟨hb, noV, [], .slice none 0 0, [], w.heap.size, ?_, fun h => absurd h hz, Nat.le_refl _, ?_, fun g hg => by simp [Value.ownBlock] at hg, ?_⟩
    · rw [he]; unfold dC; rw [if_neg hz]; rfl
    · unfold dC; rw [if_neg hz]; exact noV_cop _ _
    · unfold dM; rw [if_neg hz]; exact own_nil _ _ _ _
theorem rRenumber_all (w : World) (V : CV) (C : Circ) (h : C.In w V) (ok : C.Ok) (rm : C.Room) (htn : ∀ s ∈ C.comments, s.size ≤ maxLen) :
    Calls Try.prog 19 #[V.val C.max] w fun e w' => Below w.heap.size w w' ∧ ∃ V' us vm out, e = .returned (.tuple #[CV.val V' (dC C out).max, vm, .int .i64 (checkR C).2]) ∧ GoodO C out ∧
      CopB w' w.heap.size (dC C out) us V' ∧ w'.ownsRow w.heap.size 3 1 vm (dM C out).length ((dM C out).map (Value.int .i64)) := by
  by_cases hz : (checkR C).2 = 0
  · refine (rRenumber_ok w V C h ok rm htn hz).mono ?_
    rintro e w' ⟨hb, V', us, vm, out, he, hg, hl, h2, ho⟩
    refine ⟨hb, V', us, vm, out, ?_, fun _ => ⟨hg, hl⟩, ?_, ?_⟩
    · rw [he, hz]; unfold dC; rw [if_pos hz]
    · unfold dC; rw [if_pos hz]; exact h2
    · unfold dM; rw [if_pos hz]; exact ho
  · refine (rRenumber_no w V C h ok htn hz).mono ?_
    rintro e w' ⟨hb, he⟩
    refine ⟨hb, noV, [], .slice none 0 0, [], ?_, fun h => absurd h hz, ?_, ?_⟩
    · rw [he]; unfold dC; rw [if_neg hz]; rfl
    · unfold dC; rw [if_neg hz]; exact noV_copB _ _
    · unfold dM; rw [if_neg hz]; exact own_nil _ _ _ _
set_option maxHeartbeats 1000000 in
set_option maxRecDepth 100000 in
theorem IsBinary_no (w : World) (V : CV) (C : Circ) (h : C.In w V) (ok : C.Ok) (hz : (checkR C).2 ≠ 0) :
    Calls Try.prog 20 #[V.val C.max] w fun e w' => Below w.heap.size w w' ∧ e = .returned (.tuple #[.bool false, .int .i64 (checkR C).2]) := by
  have HB := Lib.hid ((Below.refl w.heap.size w).alloc (Nat.le_refl _) (.cells (V.cells C.max) 29))
  have hck := Check_any _ V C (h.below HB.out) ok
  obtain ⟨a, r, hr⟩ : ∃ a r, checkR C = (a, r) := ⟨_, _, rfl⟩
  obtain ⟨m, hmm⟩ : ∃ m, C.max = m := ⟨_, rfl⟩
  obtain ⟨Vi, Vl, Vo, Vb, Vc, Vj, Vf, Va, Vs, Vt⟩ := V
  rw [hr, hmm] at hck
  rw [hmm] at HB
  rw [hr] at hz ⊢
  have HCK := Lib.hid hck
  rw [hmm]
  simp only at hz ⊢
  have hq : (r != 0) = true := by simpa using hz
  clear hck h ok hr hmm hz
  go_enter Try.func20, Try.ntmps20
  go_wp2_with (go_at_call 10; refine HCK.out.mono ?_; rintro e w1 ⟨rfl, hb1⟩; have HB1 := Lib.hid hb1; clear hb1)
  go_ret2
  exact ⟨HB.out.trans (HB1.out.mono (by simp)), rfl⟩
theorem IsBinary_all (w : World) (V : CV) (C : Circ) (h : C.In w V) (ok : C.Ok) :
    Calls Try.prog 20 #[V.val C.max] w fun e w' => e = .returned (.tuple #[.bool (decide ((checkR C).2 = 0) && binB C), .int .i64 (checkR C).2]) ∧ Below w.heap.size w w' := by
  by_cases hz : (checkR C).2 = 0
  · refine (IsBinary_ok w V C h ok hz).mono ?_
    rintro e w' ⟨hb, he⟩
    exact ⟨by rw [he, hz]; rfl, hb⟩
  · refine (IsBinary_no w V C h ok hz).mono ?_
    rintro e w' ⟨hb, he⟩
    exact ⟨by rw [he, decide_eq_false hz]; rfl, hb⟩
end Go.Proofs.Ytjakckfmdfpekaa
