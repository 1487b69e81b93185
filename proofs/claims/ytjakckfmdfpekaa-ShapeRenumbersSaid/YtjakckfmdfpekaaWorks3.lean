/- The statements' own example: trestlelaw03.works answers true in whatever world. -/
import Derived.Test.YtjakckfmdfpekaaRenW
namespace Go.Proofs.Ytjakckfmdfpekaa
open Go.RowKit

def exC : Circ := { max := 3, inputs := [2, 4], latches := [], outputs := [], bads := [], constraints := [], justice := [], fairness := [], ands := [(6, 2, 4)], symbols := [], comments := [] }
def exV (a b : Nat) : CV := ⟨.slice (some ⟨a, 0, none⟩) 2 2, .slice none 0 0, .slice none 0 0, .slice none 0 0, .slice none 0 0, .slice none 0 0, .slice none 0 0, .slice (some ⟨b, 0, none⟩) 1 1, .slice none 0 0, .slice none 0 0⟩
def exD : Circ := { max := 3, inputs := [3], latches := [], outputs := [], bads := [], constraints := [], justice := [], fairness := [], ands := [], symbols := [], comments := [] }
def exU (a : Nat) : CV := ⟨.slice (some ⟨a, 0, none⟩) 1 1, .slice none 0 0, .slice none 0 0, .slice none 0 0, .slice none 0 0, .slice none 0 0, .slice none 0 0, .slice none 0 0, .slice none 0 0, .slice none 0 0⟩
theorem rowe_nil {E : Type} {k : Nat} {enc : E → List Value} {w : World} : RowE k enc w (.slice none 0 0) ([] : List E) := RowE.nil w none 0 (by simp [maxLen])
theorem lists_nil {w : World} : Lists w (.slice none 0 0) [] := ⟨[], rowe_nil, rfl, fun i u zs hu _ => by simp at hu⟩
/-- A block that is known whole reads as things. -/
theorem blk_rowe {E : Type} {k : Nat} {enc : E → List Value} {w : World} {g : Nat} {t : TypeId} {zs : List E} (hk : ∀ z, (enc z).length = k) (h : Blk w g t (zs.flatMap enc).toArray) (hm : zs.length ≤ maxLen) : RowE k enc w (.slice (some ⟨g, 0, none⟩) zs.length zs.length) zs :=
  ⟨_, _, rfl, Nat.le_refl _, hm, fun i z hz => ⟨g, 0, rfl, h.lt, fun j u hu => by
    have hj : j < k := by rw [← hk z]; exact (List.getElem?_eq_some_iff.1 hu).1
    rw [Nat.zero_add, h.cell, List.getElem?_toArray, flat_get hk zs i z hz j hj]; exact hu⟩⟩
theorem exC_in {w : World} {a b : Nat} (h1 : Blk w a 3 #[.int .i64 2, .int .i64 4]) (h2 : Blk w b 49 #[.int .i64 6, .int .i64 2, .int .i64 4]) : exC.In w (exV a b) :=
  ⟨blk_rowe (zs := ([2, 4] : List Int)) lenI h1 (by simp [maxLen]), rowe_nil, rowe_nil, rowe_nil, rowe_nil, lists_nil, rowe_nil, blk_rowe (zs := ([(6, 2, 4)] : List Tri)) lenT h2 (by simp [maxLen]), rowe_nil, rowe_nil⟩
theorem exD_in {w : World} {a : Nat} (h1 : Blk w a 3 #[.int .i64 3]) : exD.In w (exU a) :=
  ⟨blk_rowe (zs := ([3] : List Int)) lenI h1 (by simp [maxLen]), rowe_nil, rowe_nil, rowe_nil, rowe_nil, lists_nil, rowe_nil, rowe_nil, rowe_nil, rowe_nil⟩
theorem exC_ok : exC.Ok := by
  refine ⟨?_, ?_, ?_, ?_, ?_, ?_, ?_, ?_, ?_, ?_, ?_⟩ <;> simp [exC, I64, I64T]
theorem exD_ok : exD.Ok := by
  refine ⟨?_, ?_, ?_, ?_, ?_, ?_, ?_, ?_, ?_, ?_, ?_⟩ <;> simp [exD, I64, I64T]
theorem exC_room : exC.Room := by
  refine ⟨?_, ?_, ?_, ?_, ?_, ?_, ?_, ?_, ?_, ?_, ?_⟩ <;> simp [exC]
theorem exC_check : checkR exC = (0, 0) := by decide +kernel
theorem exD_check : checkR exD = (0, 30) := by decide +kernel
theorem exC_out {out : List Int} (h : Greedy (usesC exC) out) (hl : out.length = 1) : out = [0] := by
  match out, hl with
  | [x], _ =>
    have := h.inR x (by simp)
    rw [usesC_len] at this
    unfold InR at this
    simp [exC] at this
    have : x = 0 := by omega
    rw [this]
theorem exC_map : newM exC [0] = [0, 2, 4, 6] := by decide +kernel
theorem exC_ands : (renC exC [0]).ands = [(6, 4, 2)] := by decide +kernel
theorem exC_max : (renC exC [0]).max = 3 := by decide +kernel
/-- A value that is a slice. -/
def Slc (v : Value) : Prop := ∃ A n c, v = .slice A n c
structure CV.Slcs (V : CV) : Prop where
  i : Slc V.i
  l : Slc V.l
  o : Slc V.o
  b : Slc V.b
  c : Slc V.c
  j : Slc V.j
  f : Slc V.f
  a : Slc V.a
  s : Slc V.s
  t : Slc V.t
theorem own_slc {w : World} {B n k : Nat} {t : TypeId} {v : Value} {xs : List Value} (h : w.ownsRow B t k v n xs) : Slc v := by
  obtain ⟨A, c, e⟩ := own_slice_k h
  exact ⟨A, n, c, e⟩
theorem Cop.slcs {w : World} {B : Nat} {V : CV} {us : List Value} {C : Circ} (h : Cop w B V us C) : V.Slcs :=
  ⟨own_slc (h.fam.own (V.i, C.inputs) (by simp)), own_slc h.l, own_slc (h.fam.own (V.o, C.outputs) (by simp)), own_slc (h.fam.own (V.b, C.bads) (by simp)), own_slc (h.fam.own (V.c, C.constraints) (by simp)), own_slc h.j, own_slc (h.fam.own (V.f, C.fairness) (by simp)), own_slc h.a, own_slc h.s, own_slc h.t⟩
set_option maxHeartbeats 1000000 in
set_option maxRecDepth 100000 in
theorem works_any (w : World) : Calls Try.prog 17 #[] w fun e w' => e = .returned (.bool true) ∧ Below w.heap.size w w' := by
  have h1 : ∀ (wx : World) (a b : Nat), exC.In wx (exV a b) → Calls Try.prog 10 #[.agg #[.int .i64 3, .slice (some ⟨a, 0, none⟩) 2 2, .slice none 0 0, .slice none 0 0, .slice none 0 0, .slice none 0 0, .slice none 0 0, .slice none 0 0, .slice (some ⟨b, 0, none⟩) 1 1, .slice none 0 0, .slice none 0 0]] wx fun e w' => e = .returned (.tuple #[.int .i64 0, .int .i64 0]) ∧ Below wx.heap.size wx w' := fun wx a b hx => by
    have := Check_any wx _ _ hx exC_ok
    rw [exC_check] at this
    exact this
  have h2 : ∀ (wx : World) (a b : Nat), exC.In wx (exV a b) → Calls Try.prog 18 #[.agg #[.int .i64 3, .slice (some ⟨a, 0, none⟩) 2 2, .slice none 0 0, .slice none 0 0, .slice none 0 0, .slice none 0 0, .slice none 0 0, .slice none 0 0, .slice (some ⟨b, 0, none⟩) 1 1, .slice none 0 0, .slice none 0 0]] wx fun e w' => Below wx.heap.size wx w' ∧ ∃ V' gm gc capm capc, V'.Slcs ∧ e = .returned (.tuple #[CV.val V' 3, .slice (some ⟨gm, 0, none⟩) 4 capm, .int .i64 0]) ∧ V'.a = .slice (some ⟨gc, 0, none⟩) 1 capc ∧ gm < w'.heap.size ∧ gc < w'.heap.size ∧ w'.cell? ⟨gm, 3, none⟩ = some (.int .i64 6) ∧ w'.cell? ⟨gc, 0, none⟩ = some (.int .i64 6) ∧ w'.cell? ⟨gc, 1, none⟩ = some (.int .i64 4) ∧ w'.cell? ⟨gc, 2, none⟩ = some (.int .i64 2) := fun wx a b hx => by
    refine (Renumber_ok wx _ _ hx exC_ok exC_room (by rw [exC_check])).mono ?_
    rintro e w' ⟨hb, V', us, vm, out, rfl, hG, hl, hcop, hvm⟩
    have ho := exC_out hG hl
    subst ho
    have ha := hcop.a
    rw [exC_ands] at ha
    rw [exC_map] at hvm
    rw [exC_max]
    obtain ⟨gc, capc, e1, _, hlt, _, hc, _, _⟩ := own_cells3 ha (by simp)
    obtain ⟨k0, k1, k2⟩ := hc 0 _ rfl
    obtain ⟨gm, capm, e2, _, _, _, hmlt, hmc, _, _⟩ := own_cells hvm (by simp)
    refine ⟨hb, V', gm, gc, capm, capc, hcop.slcs, by rw [e2]; rfl, e1, hmlt, hlt, by simpa using hmc 3 (by simp), by simpa using k0, by simpa using k1, by simpa using k2⟩
  have h3 : ∀ (wx : World) (a : Nat), exD.In wx (exU a) → Calls Try.prog 10 #[.agg #[.int .i64 3, .slice (some ⟨a, 0, none⟩) 1 1, .slice none 0 0, .slice none 0 0, .slice none 0 0, .slice none 0 0, .slice none 0 0, .slice none 0 0, .slice none 0 0, .slice none 0 0, .slice none 0 0]] wx fun e w' => e = .returned (.tuple #[.int .i64 0, .int .i64 30]) ∧ Below wx.heap.size wx w' := fun wx a hx => by
    have := Check_any wx _ _ hx exD_ok
    rw [exD_check] at this
    exact this
  have H1 := Lib.hid h1
  have H2 := Lib.hid h2
  have H3 := Lib.hid h3
  clear h1 h2 h3
  obtain ⟨W1, hW1⟩ : ∃ W1, W1 = ((w.alloc (.cells #[.int .i64 2, .int .i64 4] 3)).alloc (.cells #[.int .i64 6, .int .i64 2, .int .i64 4] 49)).alloc (.cells #[.int .i64 3, .slice (some ⟨w.heap.size, 0, none⟩) 2 2, .slice none 0 0, .slice none 0 0, .slice none 0 0, .slice none 0 0, .slice none 0 0, .slice none 0 0, .slice (some ⟨w.heap.size + 1, 0, none⟩) 1 1, .slice none 0 0, .slice none 0 0] 29) := ⟨_, rfl⟩
  have e1 : (w.alloc (.cells #[.int .i64 2, .int .i64 4] 3)).heap.size = w.heap.size + 1 := by simp
  have e2 : ((w.alloc (.cells #[.int .i64 2, .int .i64 4] 3)).alloc (.cells #[.int .i64 6, .int .i64 2, .int .i64 4] 49)).heap.size = w.heap.size + 1 + 1 := by simp
  have b1 : Blk W1 w.heap.size 3 #[.int .i64 2, .int .i64 4] := by rw [hW1]; exact ((Blk.new w _ _).alloc _).alloc _
  have b2 : Blk W1 (w.heap.size + 1) 49 #[.int .i64 6, .int .i64 2, .int .i64 4] := by
    rw [hW1]
    have := (Blk.new (w.alloc (.cells #[.int .i64 2, .int .i64 4] 3)) 49 #[.int .i64 6, .int .i64 2, .int .i64 4]).alloc (.cells #[.int .i64 3, .slice (some ⟨w.heap.size, 0, none⟩) 2 2, .slice none 0 0, .slice none 0 0, .slice none 0 0, .slice none 0 0, .slice none 0 0, .slice none 0 0, .slice (some ⟨w.heap.size + 1, 0, none⟩) 1 1, .slice none 0 0, .slice none 0 0] 29)
    rwa [e1] at this
  have b3 : Blk W1 (w.heap.size + 1 + 1) 29 #[.int .i64 3, .slice (some ⟨w.heap.size, 0, none⟩) 2 2, .slice none 0 0, .slice none 0 0, .slice none 0 0, .slice none 0 0, .slice none 0 0, .slice none 0 0, .slice (some ⟨w.heap.size + 1, 0, none⟩) 1 1, .slice none 0 0, .slice none 0 0] := by
    rw [hW1]
    have := Blk.new ((w.alloc (.cells #[.int .i64 2, .int .i64 4] 3)).alloc (.cells #[.int .i64 6, .int .i64 2, .int .i64 4] 49)) 29 #[.int .i64 3, .slice (some ⟨w.heap.size, 0, none⟩) 2 2, .slice none 0 0, .slice none 0 0, .slice none 0 0, .slice none 0 0, .slice none 0 0, .slice none 0 0, .slice (some ⟨w.heap.size + 1, 0, none⟩) 1 1, .slice none 0 0, .slice none 0 0]
    rwa [e2] at this
  have HW1 := Lib.hid hW1
  have HI : Hid (∀ wz, Below W1.heap.size W1 wz → exC.In wz (exV w.heap.size (w.heap.size + 1))) := Lib.hid (fun wz hb => exC_in (b1.below hb b1.lt) (b2.below hb b2.lt))
  have HBX : Hid (∀ wz, Below W1.heap.size W1 wz → Blk wz (w.heap.size + 1 + 1) 29 #[.int .i64 3, .slice (some ⟨w.heap.size, 0, none⟩) 2 2, .slice none 0 0, .slice none 0 0, .slice none 0 0, .slice none 0 0, .slice none 0 0, .slice none 0 0, .slice (some ⟨w.heap.size + 1, 0, none⟩) 1 1, .slice none 0 0, .slice none 0 0]) := Lib.hid (fun wz hb => b3.below hb b3.lt)
  have HB0 : Hid (Below w.heap.size w W1) := Lib.hid (by rw [hW1]; exact (((Below.refl w.heap.size w).alloc (Nat.le_refl _) _).alloc (by simp) _).alloc (by simp; omega) _)
  have HB4 : Hid (∀ (wz : World) (V' : CV) (w3 : World), Below ((wz.alloc (.cells (V'.cells 3) 29)).alloc (.cells #[.int .i64 3] 3)).heap.size ((wz.alloc (.cells (V'.cells 3) 29)).alloc (.cells #[.int .i64 3] 3)) w3 → Below wz.heap.size wz w3 ∧ Blk w3 wz.heap.size 29 (V'.cells 3)) := Lib.hid (fun wz V' w3 hb =>
    ⟨(((Below.refl wz.heap.size wz).alloc (Nat.le_refl _) _).alloc (by simp) _).trans (hb.mono (by simp; omega)), ((Blk.new wz _ _).alloc _).below hb (by simp; omega)⟩)
  have HI3 : Hid (∀ (wz : World) (V' : CV), exD.In ((wz.alloc (.cells (V'.cells 3) 29)).alloc (.cells #[.int .i64 3] 3)) (exU (wz.heap.size + 1))) := Lib.hid (fun wz V' => exD_in (by
    have := Blk.new (wz.alloc (.cells (V'.cells 3) 29)) 3 #[.int .i64 3]
    rwa [show (wz.alloc (.cells (V'.cells 3) 29)).heap.size = wz.heap.size + 1 by simp] at this))
  clear b1 b2 b3 e1 e2 hW1
  go_enter Try.func17, Try.ntmps17
  go_upto_region 3 with (go_at_call 10; refine (H1.out _ _ _ (HI.out _ (by rw [HW1.out]; exact Below.refl _ _))).mono ?_; go_loud (rintro e w1 ⟨rfl, hb1⟩; rw [← HW1.out] at hb1; have HB1 := Lib.hid hb1; obtain ⟨c0, c1, c2, c3, c4, c5, c6, c7, c8, c9, c10⟩ := box_of (HBX.out w1 hb1); clear hb1))
  go_upto_region 4 with (go_at_call 18; go_loud (refine (H2.out _ _ _ (HI.out _ HB1.out)).mono ?_; rintro e w2 ⟨hb2, ⟨Wi, Wl, Wo, Wb, Wc, Wj, Wf, Wa, Ws, Wt⟩, gm, gc, capm, capc, ⟨⟨i1, i2, i3, q1⟩, ⟨l1, l2, l3, q2⟩, ⟨o1, o2, o3, q3⟩, ⟨b1, b2, b3, q4⟩, ⟨d1, d2, d3, q5⟩, ⟨j1, j2, j3, q6⟩, ⟨f1, f2, f3, q7⟩, _, ⟨s1, s2, s3, q8⟩, ⟨t1, t2, t3, q9⟩⟩, rfl, hVa, h1, h2, h3, h4, h5, h6⟩; simp only at hVa q1 q2 q3 q4 q5 q6 q7 q8 q9; subst hVa q1 q2 q3 q4 q5 q6 q7 q8 q9; have HB2 := Lib.hid hb2; have HC2 := Lib.hid (And.intro h1 (And.intro h2 (And.intro h3 (And.intro h4 (And.intro h5 h6))))); clear hb2 h1 h2 h3 h4 h5 h6 c0 c1 c2 c3 c4 c5 c6 c7 c8 c9 c10))
  go_upto_region 5 with (go_at_call 10; go_loud (refine (H3.out _ _ (HI3.out w2 ⟨.slice i1 i2 i3, .slice l1 l2 l3, .slice o1 o2 o3, .slice b1 b2 b3, .slice d1 d2 d3, .slice j1 j2 j3, .slice f1 f2 f3, .slice (some ⟨gc, 0, none⟩) 1 capc, .slice s1 s2 s3, .slice t1 t2 t3⟩)).mono ?_; rintro e w3 ⟨rfl, hb3⟩; obtain ⟨hb4, hbx3⟩ := HB4.out w2 ⟨.slice i1 i2 i3, .slice l1 l2 l3, .slice o1 o2 o3, .slice b1 b2 b3, .slice d1 d2 d3, .slice j1 j2 j3, .slice f1 f2 f3, .slice (some ⟨gc, 0, none⟩) 1 capc, .slice s1 s2 s3, .slice t1 t2 t3⟩ _ hb3; have HB3 := Lib.hid hb4; obtain ⟨c0, c1, c2, c3, c4, c5, c6, c7, c8, c9, c10⟩ := box_of hbx3; obtain ⟨h1, h2, h3, h4, h5, h6⟩ := HC2.out; have k3 := (hb4.cell (p := ⟨gm, 3, none⟩) h1).trans h3; have k4 := (hb4.cell (p := ⟨gc, 0, none⟩) h2).trans h4; have k5 := (hb4.cell (p := ⟨gc, 1, none⟩) h2).trans h5; have k6 := (hb4.cell (p := ⟨gc, 2, none⟩) h2).trans h6; clear hb3 hbx3 h1 h2 h3 h4 h5 h6 hb4))
  go_wp2_with (fail)
  go_ret
  exact ⟨rfl, bt (bt HB0.out (Nat.le_refl _) HB1.out) (Nat.le_refl _) (bt HB2.out (Nat.le_refl _) HB3.out)⟩
end Go.Proofs.Ytjakckfmdfpekaa
