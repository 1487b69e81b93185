/- PROVED HERE: ShapeRenumbers: for every circuit the statement's Go function returns true and leaves its argument as it was. No condition. -/
import Derived.Test.YtjakckfmdfpekaaRnF
import Derived.Test.YtjakckfmdfpekaaLendC
import Derived.Test.YtjakckfmdfpekaaKeptC
import Derived.Test.YtjakckfmdfpekaaSpoilW
import Derived.Test.YtjakckfmdfpekaaArgR
import Derived.Test.YtjakckfmdfpekaaWorks3
namespace Go.Proofs.Ytjakckfmdfpekaa
open Go.RowKit

theorem Cop.outR {w w' : World} {B : Nat} {V : CV} {us : List Value} {C : Circ} (h : Cop w B V us C) (ho : ∀ k, B ≤ k → k < w.heap.size → w'.heap[k]? = w.heap[k]?) : Cop w' B V us C := by
  have hne : ∀ {t : TypeId} {k n : Nat} {v : Value} {xs : List Value}, w.ownsRow B t k v n xs → w'.ownsRow B t k v n xs := fun h1 =>
    own_of_block h1 fun g hg => ho g (World.ownsRow.lt h1 g hg).1 (World.ownsRow.lt h1 g hg).2
  exact ⟨⟨fun p hp => hne (h.fam.own p hp), h.fam.apart⟩, h.ul, hne h.j, hne h.l, hne h.a, hne h.s, hne h.t⟩
theorem CopB.outR {w w' : World} {B : Nat} {V : CV} {us : List Value} {C : Circ} (h : CopB w B C us V) (ho : ∀ k, B ≤ k → k < w.heap.size → w'.heap[k]? = w.heap[k]?) : CopB w' B C us V := by
  have hne : ∀ {t : TypeId} {k n : Nat} {v : Value} {xs : List Value}, w.ownsRow B t k v n xs → w'.ownsRow B t k v n xs := fun h1 =>
    own_of_block h1 fun g hg => ho g (World.ownsRow.lt h1 g hg).1 (World.ownsRow.lt h1 g hg).2
  exact ⟨hne h.i, hne h.l, hne h.o, hne h.b, hne h.c, ⟨h.j.ul, hne h.j.own, fun i u zs hu hz => hne (h.j.each i u zs hu hz)⟩, hne h.f, hne h.a, hne h.s, hne h.t⟩

set_option maxHeartbeats 20000000 in
set_option maxRecDepth 100000 in
theorem renums_walk (w : World) (V : CV) (C : Circ) (h : C.In w V) (ok : C.Ok) (rm : C.Room ∧ C.Reach) :
    Calls Try.prog 4 #[V.val C.max] w fun e w' => e = .returned (.bool true) ∧ Below w.heap.size w w' := by
  obtain ⟨rm, re⟩ := rm
  have hb0 := (Below.refl w.heap.size w).alloc (Nat.le_refl _) (.cells (V.cells C.max) 29)
  have HLEND := Lib.hid (LendCircuit_any (w.alloc (.cells (V.cells C.max) 29)) V C (h.below hb0) rm ⟨re.i, re.o, re.b, re.c, re.f, re.l, re.a⟩)
  have HIN0 := Lib.hid (h.below hb0)
  have HB0 := Lib.hid hb0
  have hbx0 := Blk.new w 29 (V.cells C.max)
  obtain ⟨Vi, Vl, Vo, Vb, Vc, Vj, Vf, Va, Vs, Vt⟩ := V
  obtain ⟨m, hmm⟩ : ∃ m, C.max = m := ⟨_, rfl⟩
  have HR := Lib.hid (fun (wx : World) (U : CV) (hx : C.In wx U) => Renumber_all wx U C hx ok rm)
  have HRR := Lib.hid (fun (wx : World) (hx : C.In wx ⟨Vi, Vl, Vo, Vb, Vc, Vj, Vf, Va, Vs, Vt⟩) => rRenumber_all wx _ C hx ok rm re.t)
  have HIS := Lib.hid (fun (wx : World) (U : CV) (hx : C.In wx U) => IsBinary_all wx U C hx ok)
  have HRIS := Lib.hid (fun (wx : World) (hx : C.In wx ⟨Vi, Vl, Vo, Vb, Vc, Vj, Vf, Va, Vs, Vt⟩) => rIsBinary_any wx _ C hx ok re.t)
  have HKEPT := Lib.hid (fun (wx : World) (B : Nat) (V U : CV) (us : List Value) (hl : LentC wx B C us V) (hx : C.In wx U) => KeptCircuit_any wx B V U C us hl hx)
  obtain ⟨r, hr⟩ : ∃ r, (checkR C).2 = r := ⟨_, rfl⟩
  obtain ⟨bo, hbo⟩ : ∃ b, (decide (r = 0) && binB C) = b := ⟨_, rfl⟩
  rw [hr, hbo] at HIS HRIS
  rw [hr] at HR HRR
  rw [hmm] at HLEND HIN0 HB0 hbx0 HKEPT HR HRR HIS HRIS
  rw [hmm]
  have HBX0 := Lib.hid hbx0
  obtain ⟨c0, c1, c2, c3, c4, c5, c6, c7, c8, c9, c10⟩ := rbox_of hbx0
  clear h ok rm re hb0 hr hmm hbx0 hbo
  go_enter Try.func4, Try.ntmps4
  go_upto_region 2 with (go_at_call 9; refine HLEND.out.mono ?_; rintro e w1 ⟨U, us, rfl, hb1, hl1⟩; obtain ⟨uV0, uV1, uV2, uV3, uV4, uV5, uV6, uV7, uV8, uV9⟩ := U; obtain ⟨uA0, un0, uk0, hf0⟩ := sl_formR hl1.in_.i; simp only at hf0; subst hf0; obtain ⟨uA1, un1, uk1, hf1⟩ := sl_formR hl1.in_.l; simp only at hf1; subst hf1; obtain ⟨uA2, un2, uk2, hf2⟩ := sl_formR hl1.in_.o; simp only at hf2; subst hf2; obtain ⟨uA3, un3, uk3, hf3⟩ := sl_formR hl1.in_.b; simp only at hf3; subst hf3; obtain ⟨uA4, un4, uk4, hf4⟩ := sl_formR hl1.in_.c; simp only at hf4; subst hf4; obtain ⟨uA5, un5, uk5, hf5⟩ := sl_formRL hl1.in_.j; simp only at hf5; subst hf5; obtain ⟨uA6, un6, uk6, hf6⟩ := sl_formR hl1.in_.f; simp only at hf6; subst hf6; obtain ⟨uA7, un7, uk7, hf7⟩ := sl_formR hl1.in_.a; simp only at hf7; subst hf7; obtain ⟨uA8, un8, uk8, hf8⟩ := sl_formR hl1.in_.s; simp only at hf8; subst hf8; obtain ⟨uA9, un9, uk9, hf9⟩ := sl_formR hl1.in_.t; simp only at hf9; subst hf9;  have HL1 := Lib.hid hl1; have HB1 := Lib.hid hb1; clear hb1 hl1 c0 c1 c2 c3 c4 c5 c6 c7 c8 c9 c10)
  have HALL : Hid (∀ wz, Below (w1.alloc (.cells #[.int .i64 m, .slice uA0 un0 uk0, .slice uA1 un1 uk1, .slice uA2 un2 uk2, .slice uA3 un3 uk3, .slice uA4 un4 uk4, .slice uA5 un5 uk5, .slice uA6 un6 uk6, .slice uA7 un7 uk7, .slice uA8 un8 uk8, .slice uA9 un9 uk9] 29)).heap.size (w1.alloc (.cells #[.int .i64 m, .slice uA0 un0 uk0, .slice uA1 un1 uk1, .slice uA2 un2 uk2, .slice uA3 un3 uk3, .slice uA4 un4 uk4, .slice uA5 un5 uk5, .slice uA6 un6 uk6, .slice uA7 un7 uk7, .slice uA8 un8 uk8, .slice uA9 un9 uk9] 29)) wz → Blk wz w.heap.size 29 #[.int .i64 m, Vi, Vl, Vo, Vb, Vc, Vj, Vf, Va, Vs, Vt] ∧ Blk wz w1.heap.size 29 #[.int .i64 m, .slice uA0 un0 uk0, .slice uA1 un1 uk1, .slice uA2 un2 uk2, .slice uA3 un3 uk3, .slice uA4 un4 uk4, .slice uA5 un5 uk5, .slice uA6 un6 uk6, .slice uA7 un7 uk7, .slice uA8 un8 uk8, .slice uA9 un9 uk9] ∧ C.In wz ⟨Vi, Vl, Vo, Vb, Vc, Vj, Vf, Va, Vs, Vt⟩ ∧ LentC wz (w.alloc (.cells #[.int .i64 m, Vi, Vl, Vo, Vb, Vc, Vj, Vf, Va, Vs, Vt] 29)).heap.size C us ⟨.slice uA0 un0 uk0, .slice uA1 un1 uk1, .slice uA2 un2 uk2, .slice uA3 un3 uk3, .slice uA4 un4 uk4, .slice uA5 un5 uk5, .slice uA6 un6 uk6, .slice uA7 un7 uk7, .slice uA8 un8 uk8, .slice uA9 un9 uk9⟩ ∧ Below w.heap.size w wz) := Lib.hid (fun wz hb => by
    have h2 : Below w1.heap.size w1 (w1.alloc (.cells #[.int .i64 m, .slice uA0 un0 uk0, .slice uA1 un1 uk1, .slice uA2 un2 uk2, .slice uA3 un3 uk3, .slice uA4 un4 uk4, .slice uA5 un5 uk5, .slice uA6 un6 uk6, .slice uA7 un7 uk7, .slice uA8 un8 uk8, .slice uA9 un9 uk9] 29)) := (Below.refl w1.heap.size w1).alloc (Nat.le_refl _) _
    have h3 : Below w1.heap.size w1 wz := bt h2 (Nat.le_refl _) hb
    have h4 : Below (w.alloc (.cells #[.int .i64 m, Vi, Vl, Vo, Vb, Vc, Vj, Vf, Va, Vs, Vt] 29)).heap.size (w.alloc (.cells #[.int .i64 m, Vi, Vl, Vo, Vb, Vc, Vj, Vf, Va, Vs, Vt] 29)) wz := bt HB1.out (Nat.le_refl _) h3
    exact ⟨HBX0.out.below h4 HBX0.out.lt, (Blk.new w1 _ _).below hb (by simp), HIN0.out.below h4, HL1.out.below h3, HB0.out.trans (h4.mono (by simp))⟩)
  have HX : Hid (Below (w1.alloc (.cells #[.int .i64 m, .slice uA0 un0 uk0, .slice uA1 un1 uk1, .slice uA2 un2 uk2, .slice uA3 un3 uk3, .slice uA4 un4 uk4, .slice uA5 un5 uk5, .slice uA6 un6 uk6, .slice uA7 un7 uk7, .slice uA8 un8 uk8, .slice uA9 un9 uk9] 29)).heap.size (w1.alloc (.cells #[.int .i64 m, .slice uA0 un0 uk0, .slice uA1 un1 uk1, .slice uA2 un2 uk2, .slice uA3 un3 uk3, .slice uA4 un4 uk4, .slice uA5 un5 uk5, .slice uA6 un6 uk6, .slice uA7 un7 uk7, .slice uA8 un8 uk8, .slice uA9 un9 uk9] 29)) (w1.alloc (.cells #[.int .i64 m, .slice uA0 un0 uk0, .slice uA1 un1 uk1, .slice uA2 un2 uk2, .slice uA3 un3 uk3, .slice uA4 un4 uk4, .slice uA5 un5 uk5, .slice uA6 un6 uk6, .slice uA7 un7 uk7, .slice uA8 un8 uk8, .slice uA9 un9 uk9] 29))) := Lib.hid (Below.refl _ _)
  clear HL1 HB1 HLEND HIN0 HB0 HBX0
  generalize hg1 : w1.heap.size = g1 at *
  generalize w1.alloc (.cells #[.int .i64 m, .slice uA0 un0 uk0, .slice uA1 un1 uk1, .slice uA2 un2 uk2, .slice uA3 un3 uk3, .slice uA4 un4 uk4, .slice uA5 un5 uk5, .slice uA6 un6 uk6, .slice uA7 un7 uk7, .slice uA8 un8 uk8, .slice uA9 un9 uk9] 29) = X at *
  clear hg1
  obtain ⟨c0, c1, c2, c3, c4, c5, c6, c7, c8, c9, c10⟩ := rbox_of (HALL.out _ HX.out).1; obtain ⟨d0, d1, d2, d3, d4, d5, d6, d7, d8, d9, d10⟩ := rbox_of (HALL.out _ HX.out).2.1
  -- the first circuit
  go_upto_region 3 with (go_at_call 18; refine (HR.out _ _ (HALL.out _ HX.out).2.2.2.1.in_).mono ?_; rintro e wA ⟨hb, PV, pu, vm1, o1, BB1, rfl, hgo, hBB, hcp, hvm, hown⟩; obtain ⟨D, hD⟩ : ∃ D, dC C o1 = D := ⟨_, rfl⟩; rw [hD] at hcp ⊢; obtain ⟨mx, hmx⟩ : ∃ mx, D.max = mx := ⟨_, rfl⟩; rw [hmx]; obtain ⟨pV0, pV1, pV2, pV3, pV4, pV5, pV6, pV7, pV8, pV9⟩ := PV; obtain ⟨pA0, pn0, pk0, hf0⟩ := sl_formR hcp.in_.i; simp only at hf0; subst hf0; obtain ⟨pA1, pn1, pk1, hf1⟩ := sl_formR hcp.in_.l; simp only at hf1; subst hf1; obtain ⟨pA2, pn2, pk2, hf2⟩ := sl_formR hcp.in_.o; simp only at hf2; subst hf2; obtain ⟨pA3, pn3, pk3, hf3⟩ := sl_formR hcp.in_.b; simp only at hf3; subst hf3; obtain ⟨pA4, pn4, pk4, hf4⟩ := sl_formR hcp.in_.c; simp only at hf4; subst hf4; obtain ⟨pA5, pn5, pk5, hf5⟩ := sl_formRL hcp.in_.j; simp only at hf5; subst hf5; obtain ⟨pA6, pn6, pk6, hf6⟩ := sl_formR hcp.in_.f; simp only at hf6; subst hf6; obtain ⟨pA7, pn7, pk7, hf7⟩ := sl_formR hcp.in_.a; simp only at hf7; subst hf7; obtain ⟨pA8, pn8, pk8, hf8⟩ := sl_formR hcp.in_.s; simp only at hf8; subst hf8; obtain ⟨pA9, pn9, pk9, hf9⟩ := sl_formR hcp.in_.t; simp only at hf9; subst hf9;  have HDD := Lib.hid hD; have HMX := Lib.hid hmx; have HGO := Lib.hid hgo; have HBB := Lib.hid hBB; have HCP := Lib.hid hcp; have HVM := Lib.hid hvm; have HOW := Lib.hid hown; have HBA := Lib.hid hb; clear hD hmx hgo hBB hcp hvm hown hb HX c0 c1 c2 c3 c4 c5 c6 c7 c8 c9 c10 d0 d1 d2 d3 d4 d5 d6 d7 d8 d9 d10)
  have HALL2 : Hid (∀ wz, Below (wA.alloc (.cells #[.int .i64 mx, .slice pA0 pn0 pk0, .slice pA1 pn1 pk1, .slice pA2 pn2 pk2, .slice pA3 pn3 pk3, .slice pA4 pn4 pk4, .slice pA5 pn5 pk5, .slice pA6 pn6 pk6, .slice pA7 pn7 pk7, .slice pA8 pn8 pk8, .slice pA9 pn9 pk9] 29)).heap.size (wA.alloc (.cells #[.int .i64 mx, .slice pA0 pn0 pk0, .slice pA1 pn1 pk1, .slice pA2 pn2 pk2, .slice pA3 pn3 pk3, .slice pA4 pn4 pk4, .slice pA5 pn5 pk5, .slice pA6 pn6 pk6, .slice pA7 pn7 pk7, .slice pA8 pn8 pk8, .slice pA9 pn9 pk9] 29)) wz → Below X.heap.size X wz ∧ Blk wz wA.heap.size 29 #[.int .i64 mx, .slice pA0 pn0 pk0, .slice pA1 pn1 pk1, .slice pA2 pn2 pk2, .slice pA3 pn3 pk3, .slice pA4 pn4 pk4, .slice pA5 pn5 pk5, .slice pA6 pn6 pk6, .slice pA7 pn7 pk7, .slice pA8 pn8 pk8, .slice pA9 pn9 pk9] ∧ Cop wz BB1 ⟨.slice pA0 pn0 pk0, .slice pA1 pn1 pk1, .slice pA2 pn2 pk2, .slice pA3 pn3 pk3, .slice pA4 pn4 pk4, .slice pA5 pn5 pk5, .slice pA6 pn6 pk6, .slice pA7 pn7 pk7, .slice pA8 pn8 pk8, .slice pA9 pn9 pk9⟩ pu D ∧ wz.ownsRow X.heap.size 3 1 vm1 (dM C o1).length ((dM C o1).map (Value.int .i64))) := Lib.hid (fun wz hb => by
    have h2 : Below wA.heap.size wA (wA.alloc (.cells #[.int .i64 mx, .slice pA0 pn0 pk0, .slice pA1 pn1 pk1, .slice pA2 pn2 pk2, .slice pA3 pn3 pk3, .slice pA4 pn4 pk4, .slice pA5 pn5 pk5, .slice pA6 pn6 pk6, .slice pA7 pn7 pk7, .slice pA8 pn8 pk8, .slice pA9 pn9 pk9] 29)) := (Below.refl wA.heap.size wA).alloc (Nat.le_refl _) _
    have h3 : Below wA.heap.size wA wz := bt h2 (Nat.le_refl _) hb
    exact ⟨bt HBA.out (Nat.le_refl _) h3, (Blk.new wA _ _).below hb (by simp), HCP.out.below h3, own_below HOW.out h3⟩)
  have HXA1 : Hid (Below (wA.alloc (.cells #[.int .i64 mx, .slice pA0 pn0 pk0, .slice pA1 pn1 pk1, .slice pA2 pn2 pk2, .slice pA3 pn3 pk3, .slice pA4 pn4 pk4, .slice pA5 pn5 pk5, .slice pA6 pn6 pk6, .slice pA7 pn7 pk7, .slice pA8 pn8 pk8, .slice pA9 pn9 pk9] 29)).heap.size (wA.alloc (.cells #[.int .i64 mx, .slice pA0 pn0 pk0, .slice pA1 pn1 pk1, .slice pA2 pn2 pk2, .slice pA3 pn3 pk3, .slice pA4 pn4 pk4, .slice pA5 pn5 pk5, .slice pA6 pn6 pk6, .slice pA7 pn7 pk7, .slice pA8 pn8 pk8, .slice pA9 pn9 pk9] 29)) (wA.alloc (.cells #[.int .i64 mx, .slice pA0 pn0 pk0, .slice pA1 pn1 pk1, .slice pA2 pn2 pk2, .slice pA3 pn3 pk3, .slice pA4 pn4 pk4, .slice pA5 pn5 pk5, .slice pA6 pn6 pk6, .slice pA7 pn7 pk7, .slice pA8 pn8 pk8, .slice pA9 pn9 pk9] 29))) := Lib.hid (Below.refl _ _)
  have HSZA : Hid (wA.heap.size < (wA.alloc (.cells #[.int .i64 mx, .slice pA0 pn0 pk0, .slice pA1 pn1 pk1, .slice pA2 pn2 pk2, .slice pA3 pn3 pk3, .slice pA4 pn4 pk4, .slice pA5 pn5 pk5, .slice pA6 pn6 pk6, .slice pA7 pn7 pk7, .slice pA8 pn8 pk8, .slice pA9 pn9 pk9] 29)).heap.size) := Lib.hid (by simp)
  generalize hbp : wA.heap.size = bp at *
  generalize wA.alloc (.cells #[.int .i64 mx, .slice pA0 pn0 pk0, .slice pA1 pn1 pk1, .slice pA2 pn2 pk2, .slice pA3 pn3 pk3, .slice pA4 pn4 pk4, .slice pA5 pn5 pk5, .slice pA6 pn6 pk6, .slice pA7 pn7 pk7, .slice pA8 pn8 pk8, .slice pA9 pn9 pk9] 29) = XA at *
  have HBP := Lib.hid hbp
  clear hbp
  have HX := Lib.hid (HALL2.out _ HXA1.out).1
  obtain ⟨c0, c1, c2, c3, c4, c5, c6, c7, c8, c9, c10⟩ := rbox_of (HALL.out _ HX.out).1; obtain ⟨d0, d1, d2, d3, d4, d5, d6, d7, d8, d9, d10⟩ := rbox_of (HALL.out _ HX.out).2.1
  -- once more
  go_upto_region 4 with (go_at_call 18; refine (HR.out _ _ (HALL.out _ HX.out).2.2.2.1.in_).mono ?_; rintro e wB ⟨hb, QV, qu, vm2, o2, BB2, rfl, hgo, hBB, hcp, hvm, hown⟩; have hsm := (good_same hgo HGO.out).1; rw [hsm, HDD.out] at hcp ⊢; rw [HMX.out]; obtain ⟨qV0, qV1, qV2, qV3, qV4, qV5, qV6, qV7, qV8, qV9⟩ := QV; obtain ⟨qA0, qn0, qk0, hf0⟩ := sl_formR hcp.in_.i; simp only at hf0; subst hf0; obtain ⟨qA1, qn1, qk1, hf1⟩ := sl_formR hcp.in_.l; simp only at hf1; subst hf1; obtain ⟨qA2, qn2, qk2, hf2⟩ := sl_formR hcp.in_.o; simp only at hf2; subst hf2; obtain ⟨qA3, qn3, qk3, hf3⟩ := sl_formR hcp.in_.b; simp only at hf3; subst hf3; obtain ⟨qA4, qn4, qk4, hf4⟩ := sl_formR hcp.in_.c; simp only at hf4; subst hf4; obtain ⟨qA5, qn5, qk5, hf5⟩ := sl_formRL hcp.in_.j; simp only at hf5; subst hf5; obtain ⟨qA6, qn6, qk6, hf6⟩ := sl_formR hcp.in_.f; simp only at hf6; subst hf6; obtain ⟨qA7, qn7, qk7, hf7⟩ := sl_formR hcp.in_.a; simp only at hf7; subst hf7; obtain ⟨qA8, qn8, qk8, hf8⟩ := sl_formR hcp.in_.s; simp only at hf8; subst hf8; obtain ⟨qA9, qn9, qk9, hf9⟩ := sl_formR hcp.in_.t; simp only at hf9; subst hf9;  have HBB2 := Lib.hid hBB; have HCQ := Lib.hid hcp; have HBQ := Lib.hid hb; have HV2 := Lib.hid hown; clear hgo hBB hcp hvm hown hb HX hsm c0 c1 c2 c3 c4 c5 c6 c7 c8 c9 c10 d0 d1 d2 d3 d4 d5 d6 d7 d8 d9 d10)
  have HALL3 : Hid (∀ wz, Below (wB.alloc (.cells #[.int .i64 mx, .slice qA0 qn0 qk0, .slice qA1 qn1 qk1, .slice qA2 qn2 qk2, .slice qA3 qn3 qk3, .slice qA4 qn4 qk4, .slice qA5 qn5 qk5, .slice qA6 qn6 qk6, .slice qA7 qn7 qk7, .slice qA8 qn8 qk8, .slice qA9 qn9 qk9] 29)).heap.size (wB.alloc (.cells #[.int .i64 mx, .slice qA0 qn0 qk0, .slice qA1 qn1 qk1, .slice qA2 qn2 qk2, .slice qA3 qn3 qk3, .slice qA4 qn4 qk4, .slice qA5 qn5 qk5, .slice qA6 qn6 qk6, .slice qA7 qn7 qk7, .slice qA8 qn8 qk8, .slice qA9 qn9 qk9] 29)) wz → Below XA.heap.size XA wz ∧ Blk wz wB.heap.size 29 #[.int .i64 mx, .slice qA0 qn0 qk0, .slice qA1 qn1 qk1, .slice qA2 qn2 qk2, .slice qA3 qn3 qk3, .slice qA4 qn4 qk4, .slice qA5 qn5 qk5, .slice qA6 qn6 qk6, .slice qA7 qn7 qk7, .slice qA8 qn8 qk8, .slice qA9 qn9 qk9] ∧ Cop wz BB2 ⟨.slice qA0 qn0 qk0, .slice qA1 qn1 qk1, .slice qA2 qn2 qk2, .slice qA3 qn3 qk3, .slice qA4 qn4 qk4, .slice qA5 qn5 qk5, .slice qA6 qn6 qk6, .slice qA7 qn7 qk7, .slice qA8 qn8 qk8, .slice qA9 qn9 qk9⟩ qu D) := Lib.hid (fun wz hb => by
    have h2 : Below wB.heap.size wB (wB.alloc (.cells #[.int .i64 mx, .slice qA0 qn0 qk0, .slice qA1 qn1 qk1, .slice qA2 qn2 qk2, .slice qA3 qn3 qk3, .slice qA4 qn4 qk4, .slice qA5 qn5 qk5, .slice qA6 qn6 qk6, .slice qA7 qn7 qk7, .slice qA8 qn8 qk8, .slice qA9 qn9 qk9] 29)) := (Below.refl wB.heap.size wB).alloc (Nat.le_refl _) _
    have h3 : Below wB.heap.size wB wz := bt h2 (Nat.le_refl _) hb
    exact ⟨bt HBQ.out (Nat.le_refl _) h3, (Blk.new wB _ _).below hb (by simp), HCQ.out.below h3⟩)
  have HXB1 : Hid (Below (wB.alloc (.cells #[.int .i64 mx, .slice qA0 qn0 qk0, .slice qA1 qn1 qk1, .slice qA2 qn2 qk2, .slice qA3 qn3 qk3, .slice qA4 qn4 qk4, .slice qA5 qn5 qk5, .slice qA6 qn6 qk6, .slice qA7 qn7 qk7, .slice qA8 qn8 qk8, .slice qA9 qn9 qk9] 29)).heap.size (wB.alloc (.cells #[.int .i64 mx, .slice qA0 qn0 qk0, .slice qA1 qn1 qk1, .slice qA2 qn2 qk2, .slice qA3 qn3 qk3, .slice qA4 qn4 qk4, .slice qA5 qn5 qk5, .slice qA6 qn6 qk6, .slice qA7 qn7 qk7, .slice qA8 qn8 qk8, .slice qA9 qn9 qk9] 29)) (wB.alloc (.cells #[.int .i64 mx, .slice qA0 qn0 qk0, .slice qA1 qn1 qk1, .slice qA2 qn2 qk2, .slice qA3 qn3 qk3, .slice qA4 qn4 qk4, .slice qA5 qn5 qk5, .slice qA6 qn6 qk6, .slice qA7 qn7 qk7, .slice qA8 qn8 qk8, .slice qA9 qn9 qk9] 29))) := Lib.hid (Below.refl _ _)
  have HSZB : Hid (XA.heap.size ≤ wB.heap.size) := Lib.hid HBQ.out.size
  generalize wB.heap.size = bq at *
  generalize wB.alloc (.cells #[.int .i64 mx, .slice qA0 qn0 qk0, .slice qA1 qn1 qk1, .slice qA2 qn2 qk2, .slice qA3 qn3 qk3, .slice qA4 qn4 qk4, .slice qA5 qn5 qk5, .slice qA6 qn6 qk6, .slice qA7 qn7 qk7, .slice qA8 qn8 qk8, .slice qA9 qn9 qk9] 29) = XB at *
  have HX := Lib.hid (HALL2.out _ (HALL3.out _ HXB1.out).1).1
  obtain ⟨c0, c1, c2, c3, c4, c5, c6, c7, c8, c9, c10⟩ := rbox_of (HALL.out _ HX.out).1; obtain ⟨d0, d1, d2, d3, d4, d5, d6, d7, d8, d9, d10⟩ := rbox_of (HALL.out _ HX.out).2.1
  -- the document's
  go_upto_region 5 with (go_at_call 19; refine (HRR.out _ (HALL.out _ HX.out).2.2.1).mono ?_; rintro e wC ⟨hb, SV, su, vm3, o3, rfl, hgo, hcp, hown⟩; have hsm := good_same hgo HGO.out; rw [hsm.1, HDD.out] at hcp ⊢; rw [hsm.2] at hown; rw [HMX.out]; obtain ⟨sV0, sV1, sV2, sV3, sV4, sV5, sV6, sV7, sV8, sV9⟩ := SV; obtain ⟨sA0, sn0, sk0, hf0⟩ := sl_formR hcp.in_.i; simp only at hf0; subst hf0; obtain ⟨sA1, sn1, sk1, hf1⟩ := sl_formR hcp.in_.l; simp only at hf1; subst hf1; obtain ⟨sA2, sn2, sk2, hf2⟩ := sl_formR hcp.in_.o; simp only at hf2; subst hf2; obtain ⟨sA3, sn3, sk3, hf3⟩ := sl_formR hcp.in_.b; simp only at hf3; subst hf3; obtain ⟨sA4, sn4, sk4, hf4⟩ := sl_formR hcp.in_.c; simp only at hf4; subst hf4; obtain ⟨sA5, sn5, sk5, hf5⟩ := sl_formRL hcp.in_.j; simp only at hf5; subst hf5; obtain ⟨sA6, sn6, sk6, hf6⟩ := sl_formR hcp.in_.f; simp only at hf6; subst hf6; obtain ⟨sA7, sn7, sk7, hf7⟩ := sl_formR hcp.in_.a; simp only at hf7; subst hf7; obtain ⟨sA8, sn8, sk8, hf8⟩ := sl_formR hcp.in_.s; simp only at hf8; subst hf8; obtain ⟨sA9, sn9, sk9, hf9⟩ := sl_formR hcp.in_.t; simp only at hf9; subst hf9;  have HCS := Lib.hid hcp; have HBS := Lib.hid hb; have HV3 := Lib.hid hown; clear hgo hcp hown hb HX hsm c0 c1 c2 c3 c4 c5 c6 c7 c8 c9 c10 d0 d1 d2 d3 d4 d5 d6 d7 d8 d9 d10)
  have HALL4 : Hid (∀ wz, Below (wC.alloc (.cells #[.int .i64 mx, .slice sA0 sn0 sk0, .slice sA1 sn1 sk1, .slice sA2 sn2 sk2, .slice sA3 sn3 sk3, .slice sA4 sn4 sk4, .slice sA5 sn5 sk5, .slice sA6 sn6 sk6, .slice sA7 sn7 sk7, .slice sA8 sn8 sk8, .slice sA9 sn9 sk9] 29)).heap.size (wC.alloc (.cells #[.int .i64 mx, .slice sA0 sn0 sk0, .slice sA1 sn1 sk1, .slice sA2 sn2 sk2, .slice sA3 sn3 sk3, .slice sA4 sn4 sk4, .slice sA5 sn5 sk5, .slice sA6 sn6 sk6, .slice sA7 sn7 sk7, .slice sA8 sn8 sk8, .slice sA9 sn9 sk9] 29)) wz → Below XB.heap.size XB wz ∧ Blk wz wC.heap.size 29 #[.int .i64 mx, .slice sA0 sn0 sk0, .slice sA1 sn1 sk1, .slice sA2 sn2 sk2, .slice sA3 sn3 sk3, .slice sA4 sn4 sk4, .slice sA5 sn5 sk5, .slice sA6 sn6 sk6, .slice sA7 sn7 sk7, .slice sA8 sn8 sk8, .slice sA9 sn9 sk9] ∧ CopB wz XB.heap.size D su ⟨.slice sA0 sn0 sk0, .slice sA1 sn1 sk1, .slice sA2 sn2 sk2, .slice sA3 sn3 sk3, .slice sA4 sn4 sk4, .slice sA5 sn5 sk5, .slice sA6 sn6 sk6, .slice sA7 sn7 sk7, .slice sA8 sn8 sk8, .slice sA9 sn9 sk9⟩ ∧ wz.ownsRow XB.heap.size 3 1 vm3 (dM C o1).length ((dM C o1).map (Value.int .i64))) := Lib.hid (fun wz hb => by
    have h2 : Below wC.heap.size wC (wC.alloc (.cells #[.int .i64 mx, .slice sA0 sn0 sk0, .slice sA1 sn1 sk1, .slice sA2 sn2 sk2, .slice sA3 sn3 sk3, .slice sA4 sn4 sk4, .slice sA5 sn5 sk5, .slice sA6 sn6 sk6, .slice sA7 sn7 sk7, .slice sA8 sn8 sk8, .slice sA9 sn9 sk9] 29)) := (Below.refl wC.heap.size wC).alloc (Nat.le_refl _) _
    have h3 : Below wC.heap.size wC wz := bt h2 (Nat.le_refl _) hb
    exact ⟨bt HBS.out (Nat.le_refl _) h3, (Blk.new wC _ _).below hb (by simp), HCS.out.below h3, own_below HV3.out h3⟩)
  have HX : Hid (Below (wC.alloc (.cells #[.int .i64 mx, .slice sA0 sn0 sk0, .slice sA1 sn1 sk1, .slice sA2 sn2 sk2, .slice sA3 sn3 sk3, .slice sA4 sn4 sk4, .slice sA5 sn5 sk5, .slice sA6 sn6 sk6, .slice sA7 sn7 sk7, .slice sA8 sn8 sk8, .slice sA9 sn9 sk9] 29)).heap.size (wC.alloc (.cells #[.int .i64 mx, .slice sA0 sn0 sk0, .slice sA1 sn1 sk1, .slice sA2 sn2 sk2, .slice sA3 sn3 sk3, .slice sA4 sn4 sk4, .slice sA5 sn5 sk5, .slice sA6 sn6 sk6, .slice sA7 sn7 sk7, .slice sA8 sn8 sk8, .slice sA9 sn9 sk9] 29)) (wC.alloc (.cells #[.int .i64 mx, .slice sA0 sn0 sk0, .slice sA1 sn1 sk1, .slice sA2 sn2 sk2, .slice sA3 sn3 sk3, .slice sA4 sn4 sk4, .slice sA5 sn5 sk5, .slice sA6 sn6 sk6, .slice sA7 sn7 sk7, .slice sA8 sn8 sk8, .slice sA9 sn9 sk9] 29))) := Lib.hid (Below.refl _ _)
  have HSZC : Hid (XB.heap.size ≤ wC.heap.size) := Lib.hid HBS.out.size
  generalize wC.heap.size = bs at *
  generalize wC.alloc (.cells #[.int .i64 mx, .slice sA0 sn0 sk0, .slice sA1 sn1 sk1, .slice sA2 sn2 sk2, .slice sA3 sn3 sk3, .slice sA4 sn4 sk4, .slice sA5 sn5 sk5, .slice sA6 sn6 sk6, .slice sA7 sn7 sk7, .slice sA8 sn8 sk8, .slice sA9 sn9 sk9] 29) = XC at *
  have HTOB : Hid (∀ wz, Below XC.heap.size XC wz → Below XB.heap.size XB wz) := Lib.hid (fun wz hb => (HALL4.out wz hb).1)
  have HTOA : Hid (∀ wz, Below XC.heap.size XC wz → Below XA.heap.size XA wz) := Lib.hid (fun wz hb => (HALL3.out wz (HTOB.out wz hb)).1)
  have HTOX : Hid (∀ wz, Below XC.heap.size XC wz → Below X.heap.size X wz) := Lib.hid (fun wz hb => (HALL2.out wz (HTOA.out wz hb)).1)
  have HSC : Hid (∀ (wx : World) (V1 V2 : CV), D.In wx V1 → D.In wx V2 → Calls Try.prog 22 #[V1.val mx, V2.val mx] wx fun e w' => e = .returned (.bool true) ∧ Below wx.heap.size wx w') := Lib.hid (fun wx V1 V2 h1 h2 => by
    have hs := SameCircuit_any wx V1 V2 D D h1 h2
    rw [HMX.out] at hs
    refine hs.mono ?_
    rintro e w' ⟨r, rfl, hr, hb'⟩
    exact ⟨by rw [hr.2 rfl], hb'⟩)
  obtain ⟨c0, c1, c2, c3, c4, c5, c6, c7, c8, c9, c10⟩ := rbox_of (HALL.out _ (HTOX.out _ HX.out)).1; obtain ⟨d0, d1, d2, d3, d4, d5, d6, d7, d8, d9, d10⟩ := rbox_of (HALL.out _ (HTOX.out _ HX.out)).2.1; obtain ⟨p0, p1, p2, p3, p4, p5, p6, p7, p8, p9, p10⟩ := rbox_of (HALL2.out _ (HTOA.out _ HX.out)).2.1; obtain ⟨q0, q1, q2, q3, q4, q5, q6, q7, q8, q9, q10⟩ := rbox_of (HALL3.out _ (HTOB.out _ HX.out)).2.1; obtain ⟨s0, s1, s2, s3, s4, s5, s6, s7, s8, s9, s10⟩ := rbox_of (HALL4.out _ HX.out).2.1
  go_upto_region 9 with (first | (go_at_call 20; refine (HIS.out _ _ (HALL.out _ (HTOX.out _ HX.out)).2.2.2.1.in_).mono ?_; rintro e w9 ⟨rfl, hb⟩; have HXN := Lib.hid (bt HX.out (Nat.le_refl _) hb); clear hb HX; have HX := HXN; clear HXN; clear c0 c1 c2 c3 c4 c5 c6 c7 c8 c9 c10 d0 d1 d2 d3 d4 d5 d6 d7 d8 d9 d10 p0 p1 p2 p3 p4 p5 p6 p7 p8 p9 p10 q0 q1 q2 q3 q4 q5 q6 q7 q8 q9 q10 s0 s1 s2 s3 s4 s5 s6 s7 s8 s9 s10; obtain ⟨c0, c1, c2, c3, c4, c5, c6, c7, c8, c9, c10⟩ := rbox_of (HALL.out _ (HTOX.out _ HX.out)).1; obtain ⟨d0, d1, d2, d3, d4, d5, d6, d7, d8, d9, d10⟩ := rbox_of (HALL.out _ (HTOX.out _ HX.out)).2.1; obtain ⟨p0, p1, p2, p3, p4, p5, p6, p7, p8, p9, p10⟩ := rbox_of (HALL2.out _ (HTOA.out _ HX.out)).2.1; obtain ⟨q0, q1, q2, q3, q4, q5, q6, q7, q8, q9, q10⟩ := rbox_of (HALL3.out _ (HTOB.out _ HX.out)).2.1; obtain ⟨s0, s1, s2, s3, s4, s5, s6, s7, s8, s9, s10⟩ := rbox_of (HALL4.out _ HX.out).2.1) | (go_at_call 21; refine (HRIS.out _ (HALL.out _ (HTOX.out _ HX.out)).2.2.1).mono ?_; rintro e w9 ⟨rfl, hb⟩; have HXN := Lib.hid (bt HX.out (Nat.le_refl _) hb); clear hb HX; have HX := HXN; clear HXN; clear c0 c1 c2 c3 c4 c5 c6 c7 c8 c9 c10 d0 d1 d2 d3 d4 d5 d6 d7 d8 d9 d10 p0 p1 p2 p3 p4 p5 p6 p7 p8 p9 p10 q0 q1 q2 q3 q4 q5 q6 q7 q8 q9 q10 s0 s1 s2 s3 s4 s5 s6 s7 s8 s9 s10; obtain ⟨c0, c1, c2, c3, c4, c5, c6, c7, c8, c9, c10⟩ := rbox_of (HALL.out _ (HTOX.out _ HX.out)).1; obtain ⟨d0, d1, d2, d3, d4, d5, d6, d7, d8, d9, d10⟩ := rbox_of (HALL.out _ (HTOX.out _ HX.out)).2.1; obtain ⟨p0, p1, p2, p3, p4, p5, p6, p7, p8, p9, p10⟩ := rbox_of (HALL2.out _ (HTOA.out _ HX.out)).2.1; obtain ⟨q0, q1, q2, q3, q4, q5, q6, q7, q8, q9, q10⟩ := rbox_of (HALL3.out _ (HTOB.out _ HX.out)).2.1; obtain ⟨s0, s1, s2, s3, s4, s5, s6, s7, s8, s9, s10⟩ := rbox_of (HALL4.out _ HX.out).2.1) | (go_at_call 22; refine (HSC.out _ _ _ (HALL2.out _ (HTOA.out _ HX.out)).2.2.1.in_ (HALL4.out _ HX.out).2.2.1.in_).mono ?_; rintro e w9 ⟨rfl, hb⟩; have HXN := Lib.hid (bt HX.out (Nat.le_refl _) hb); clear hb HX; have HX := HXN; clear HXN; clear c0 c1 c2 c3 c4 c5 c6 c7 c8 c9 c10 d0 d1 d2 d3 d4 d5 d6 d7 d8 d9 d10 p0 p1 p2 p3 p4 p5 p6 p7 p8 p9 p10 q0 q1 q2 q3 q4 q5 q6 q7 q8 q9 q10 s0 s1 s2 s3 s4 s5 s6 s7 s8 s9 s10; obtain ⟨c0, c1, c2, c3, c4, c5, c6, c7, c8, c9, c10⟩ := rbox_of (HALL.out _ (HTOX.out _ HX.out)).1; obtain ⟨d0, d1, d2, d3, d4, d5, d6, d7, d8, d9, d10⟩ := rbox_of (HALL.out _ (HTOX.out _ HX.out)).2.1; obtain ⟨p0, p1, p2, p3, p4, p5, p6, p7, p8, p9, p10⟩ := rbox_of (HALL2.out _ (HTOA.out _ HX.out)).2.1; obtain ⟨q0, q1, q2, q3, q4, q5, q6, q7, q8, q9, q10⟩ := rbox_of (HALL3.out _ (HTOB.out _ HX.out)).2.1; obtain ⟨s0, s1, s2, s3, s4, s5, s6, s7, s8, s9, s10⟩ := rbox_of (HALL4.out _ HX.out).2.1) | (go_at_call 14; refine (SameInts_any _ _ _ (dM C o1) (dM C o1) (own_rowe lenI (by rw [flat_ints]; exact (HALL2.out _ (HTOA.out _ HX.out)).2.2.2)) (own_rowe lenI (by rw [flat_ints]; exact (HALL4.out _ HX.out).2.2.2))).mono ?_; rw [decide_eq_true (rfl : dM C o1 = dM C o1)]; rintro e w9 ⟨rfl, hb⟩; have HXN := Lib.hid (bt HX.out (Nat.le_refl _) hb); clear hb HX; have HX := HXN; clear HXN; clear c0 c1 c2 c3 c4 c5 c6 c7 c8 c9 c10 d0 d1 d2 d3 d4 d5 d6 d7 d8 d9 d10 p0 p1 p2 p3 p4 p5 p6 p7 p8 p9 p10 q0 q1 q2 q3 q4 q5 q6 q7 q8 q9 q10 s0 s1 s2 s3 s4 s5 s6 s7 s8 s9 s10; obtain ⟨c0, c1, c2, c3, c4, c5, c6, c7, c8, c9, c10⟩ := rbox_of (HALL.out _ (HTOX.out _ HX.out)).1; obtain ⟨d0, d1, d2, d3, d4, d5, d6, d7, d8, d9, d10⟩ := rbox_of (HALL.out _ (HTOX.out _ HX.out)).2.1; obtain ⟨p0, p1, p2, p3, p4, p5, p6, p7, p8, p9, p10⟩ := rbox_of (HALL2.out _ (HTOA.out _ HX.out)).2.1; obtain ⟨q0, q1, q2, q3, q4, q5, q6, q7, q8, q9, q10⟩ := rbox_of (HALL3.out _ (HTOB.out _ HX.out)).2.1; obtain ⟨s0, s1, s2, s3, s4, s5, s6, s7, s8, s9, s10⟩ := rbox_of (HALL4.out _ HX.out).2.1))
  have HWC := Lib.hid HX.out
  have hspl := fun (wg : World) (hx : Below XC.heap.size XC wg) => SpoilCircuit_any wA wg BB1 ⟨.slice pA0 pn0 pk0, .slice pA1 pn1 pk1, .slice pA2 pn2 pk2, .slice pA3 pn3 pk3, .slice pA4 pn4 pk4, .slice pA5 pn5 pk5, .slice pA6 pn6 pk6, .slice pA7 pn7 pk7, .slice pA8 pn8 pk8, .slice pA9 pn9 pk9⟩ D pu (-7) HCP.out (HALL2.out _ (HTOA.out _ hx)).2.2.1 (by have h1 := (HTOA.out _ hx).size; have h2 := HSZA.out; have h3 := HBP.out; omega)
  rw [HMX.out] at hspl
  have HSPL := Lib.hid hspl
  clear hspl
  go_upto_region 11 with (first
    | (go_at_call 23; refine (HSPL.out _ HX.out).mono ?_; rintro e wS ⟨rfl, hk7, ht7⟩; have HK7 := Lib.hid hk7; have HT7 := Lib.hid ht7; have HOS : Hid (wS.ownsRow X.heap.size 3 1 vm1 (dM C o1).length ((dM C o1).map (Value.int .i64))) := Lib.hid (own_of_block (HALL2.out _ (HTOA.out _ HX.out)).2.2.2 fun g hg => hk7.blk g (((HALL2.out _ (HTOA.out _ HX.out)).2.2.2).lt g hg).2 (fun hs => by have := HVM.out g hg; omega)); clear hk7 ht7 c0 c1 c2 c3 c4 c5 c6 c7 c8 c9 c10 d0 d1 d2 d3 d4 d5 d6 d7 d8 d9 d10 p0 p1 p2 p3 p4 p5 p6 p7 p8 p9 p10 q0 q1 q2 q3 q4 q5 q6 q7 q8 q9 q10 s0 s1 s2 s3 s4 s5 s6 s7 s8 s9 s10)
    | (go_at_call 15; refine (SpoilInts_any _ _ _ _ _ _ HOS.out).mono ?_; rintro e wT ⟨rfl, hgr⟩; have HGR := Lib.hid hgr; clear hgr))
  have HFIN : Hid (∀ wz, Below wT.heap.size wT wz → Below X.heap.size X wz ∧ Cop wz BB2 ⟨.slice qA0 qn0 qk0, .slice qA1 qn1 qk1, .slice qA2 qn2 qk2, .slice qA3 qn3 qk3, .slice qA4 qn4 qk4, .slice qA5 qn5 qk5, .slice qA6 qn6 qk6, .slice qA7 qn7 qk7, .slice qA8 qn8 qk8, .slice qA9 qn9 qk9⟩ qu D ∧ Blk wz bq 29 #[.int .i64 mx, .slice qA0 qn0 qk0, .slice qA1 qn1 qk1, .slice qA2 qn2 qk2, .slice qA3 qn3 qk3, .slice qA4 qn4 qk4, .slice qA5 qn5 qk5, .slice qA6 qn6 qk6, .slice qA7 qn7 qk7, .slice qA8 qn8 qk8, .slice qA9 qn9 qk9] ∧ CopB wz XB.heap.size D su ⟨.slice sA0 sn0 sk0, .slice sA1 sn1 sk1, .slice sA2 sn2 sk2, .slice sA3 sn3 sk3, .slice sA4 sn4 sk4, .slice sA5 sn5 sk5, .slice sA6 sn6 sk6, .slice sA7 sn7 sk7, .slice sA8 sn8 sk8, .slice sA9 sn9 sk9⟩ ∧ Blk wz bs 29 #[.int .i64 mx, .slice sA0 sn0 sk0, .slice sA1 sn1 sk1, .slice sA2 sn2 sk2, .slice sA3 sn3 sk3, .slice sA4 sn4 sk4, .slice sA5 sn5 sk5, .slice sA6 sn6 sk6, .slice sA7 sn7 sk7, .slice sA8 sn8 sk8, .slice sA9 sn9 sk9]) := Lib.hid (fun wz hb => by
    have hx0 := HX.out
    have kA := HTOA.out _ hx0
    have kB := HTOB.out _ hx0
    have kX := HTOX.out _ hx0
    have sA := kA.size
    have sB := kB.size
    have sX := kX.size
    have zA := HSZA.out
    have zB := HSZB.out
    have zC := HSZC.out
    have zBB := HBB.out
    have zBP := HBP.out
    have zB2 := HBB2.out
    have hK := HK7.out
    have hG := HGR.out
    have gl : ∀ g, vm1.ownBlock = some g → X.heap.size ≤ g ∧ g < BB1 := fun g hg => ⟨(HOS.out.lt g hg).1, HVM.out g hg⟩
    have hBA := HBA.out.size
    have hBXB : XA.heap.size ≤ XB.heap.size := (HALL3.out _ HXB1.out).1.size
    have hBB1 : BB1 ≤ bp + 1 ∨ True := .inr trivial
    have far : ∀ k, XA.heap.size ≤ k → k < w9.heap.size → wT.heap[k]? = w9.heap[k]? := fun k h1 h2 => by
      have e1 := hK.blk k h2 (fun hs => by omega)
      have h3 : k < wS.heap.size := Nat.lt_of_lt_of_le h2 hK.size
      have hne : some k ≠ vm1.ownBlock := fun e => by
        have h4 := (HCP.out)
        have h5 := gl k e.symm
        have h6 := (HOW.out.lt k e.symm).2
        omega
      exact (hG.block k h3 hne).trans e1
    have low : Below X.heap.size X wT := by
      have e1 : Below X.heap.size X wS := ⟨hK.os.trans kX.os, hK.tape.trans kX.tape, hK.output.trans kX.output, Nat.le_trans sX hK.size, fun k hk => (hK.blk k (by omega) (fun hs => by omega)).trans (kX.block k hk)⟩
      exact e1.grown hG e1.size (fun k hk => (gl k hk).1)
    have hq := (HALL3.out _ kB)
    have hs4 := (HALL4.out _ hx0)
    have hq1 : Cop wT BB2 ⟨.slice qA0 qn0 qk0, .slice qA1 qn1 qk1, .slice qA2 qn2 qk2, .slice qA3 qn3 qk3, .slice qA4 qn4 qk4, .slice qA5 qn5 qk5, .slice qA6 qn6 qk6, .slice qA7 qn7 qk7, .slice qA8 qn8 qk8, .slice qA9 qn9 qk9⟩ qu D := hq.2.2.outR fun k h1 h2 => far k (by omega) h2
    have hs1 : CopB wT XB.heap.size D su ⟨.slice sA0 sn0 sk0, .slice sA1 sn1 sk1, .slice sA2 sn2 sk2, .slice sA3 sn3 sk3, .slice sA4 sn4 sk4, .slice sA5 sn5 sk5, .slice sA6 sn6 sk6, .slice sA7 sn7 sk7, .slice sA8 sn8 sk8, .slice sA9 sn9 sk9⟩ := hs4.2.2.1.outR fun k h1 h2 => far k (by omega) h2
    have hq2 : Blk wT bq 29 #[.int .i64 mx, .slice qA0 qn0 qk0, .slice qA1 qn1 qk1, .slice qA2 qn2 qk2, .slice qA3 qn3 qk3, .slice qA4 qn4 qk4, .slice qA5 qn5 qk5, .slice qA6 qn6 qk6, .slice qA7 qn7 qk7, .slice qA8 qn8 qk8, .slice qA9 qn9 qk9] := (far bq zB hq.2.1.lt).trans hq.2.1
    have hs2 : Blk wT bs 29 #[.int .i64 mx, .slice sA0 sn0 sk0, .slice sA1 sn1 sk1, .slice sA2 sn2 sk2, .slice sA3 sn3 sk3, .slice sA4 sn4 sk4, .slice sA5 sn5 sk5, .slice sA6 sn6 sk6, .slice sA7 sn7 sk7, .slice sA8 sn8 sk8, .slice sA9 sn9 sk9] := (far bs (by omega) hs4.2.1.lt).trans hs4.2.1
    exact ⟨low.trans (hb.mono low.size), hq1.below hb, hq2.below hb hq2.lt, hs1.below hb, hs2.below hb hs2.lt⟩)
  clear HX
  have HX : Hid (Below wT.heap.size wT wT) := Lib.hid (Below.refl _ _)
  obtain ⟨c0, c1, c2, c3, c4, c5, c6, c7, c8, c9, c10⟩ := rbox_of (HALL.out _ (HFIN.out _ HX.out).1).1; obtain ⟨d0, d1, d2, d3, d4, d5, d6, d7, d8, d9, d10⟩ := rbox_of (HALL.out _ (HFIN.out _ HX.out).1).2.1; obtain ⟨q0, q1, q2, q3, q4, q5, q6, q7, q8, q9, q10⟩ := rbox_of (HFIN.out _ HX.out).2.2.1; obtain ⟨s0, s1, s2, s3, s4, s5, s6, s7, s8, s9, s10⟩ := rbox_of (HFIN.out _ HX.out).2.2.2.2
  go_wp2_with (first | (go_at_call 22; refine (HSC.out _ _ _ (HFIN.out _ HX.out).2.1.in_ (HFIN.out _ HX.out).2.2.2.1.in_).mono ?_; rintro e w9 ⟨rfl, hb⟩; have HXN := Lib.hid (bt HX.out (Nat.le_refl _) hb); clear hb HX; have HX := HXN; clear HXN; clear c0 c1 c2 c3 c4 c5 c6 c7 c8 c9 c10 d0 d1 d2 d3 d4 d5 d6 d7 d8 d9 d10 q0 q1 q2 q3 q4 q5 q6 q7 q8 q9 q10 s0 s1 s2 s3 s4 s5 s6 s7 s8 s9 s10; obtain ⟨c0, c1, c2, c3, c4, c5, c6, c7, c8, c9, c10⟩ := rbox_of (HALL.out _ (HFIN.out _ HX.out).1).1; obtain ⟨d0, d1, d2, d3, d4, d5, d6, d7, d8, d9, d10⟩ := rbox_of (HALL.out _ (HFIN.out _ HX.out).1).2.1; obtain ⟨q0, q1, q2, q3, q4, q5, q6, q7, q8, q9, q10⟩ := rbox_of (HFIN.out _ HX.out).2.2.1; obtain ⟨s0, s1, s2, s3, s4, s5, s6, s7, s8, s9, s10⟩ := rbox_of (HFIN.out _ HX.out).2.2.2.2) | (go_at_call 16; refine (HKEPT.out _ _ _ _ _ (HALL.out _ (HFIN.out _ HX.out).1).2.2.2.1 (HALL.out _ (HFIN.out _ HX.out).1).2.2.1).mono ?_; rintro e w9 ⟨rfl, hb⟩; have HXN := Lib.hid (bt HX.out (Nat.le_refl _) hb); clear hb HX; have HX := HXN; clear HXN; clear c0 c1 c2 c3 c4 c5 c6 c7 c8 c9 c10 d0 d1 d2 d3 d4 d5 d6 d7 d8 d9 d10 q0 q1 q2 q3 q4 q5 q6 q7 q8 q9 q10 s0 s1 s2 s3 s4 s5 s6 s7 s8 s9 s10; obtain ⟨c0, c1, c2, c3, c4, c5, c6, c7, c8, c9, c10⟩ := rbox_of (HALL.out _ (HFIN.out _ HX.out).1).1; obtain ⟨d0, d1, d2, d3, d4, d5, d6, d7, d8, d9, d10⟩ := rbox_of (HALL.out _ (HFIN.out _ HX.out).1).2.1; obtain ⟨q0, q1, q2, q3, q4, q5, q6, q7, q8, q9, q10⟩ := rbox_of (HFIN.out _ HX.out).2.2.1; obtain ⟨s0, s1, s2, s3, s4, s5, s6, s7, s8, s9, s10⟩ := rbox_of (HFIN.out _ HX.out).2.2.2.2) | (go_at_call 17; refine (works_any _).mono ?_; rintro e w9 ⟨rfl, hb⟩; have HXN := Lib.hid (bt HX.out (Nat.le_refl _) hb); clear hb HX; have HX := HXN; clear HXN; clear c0 c1 c2 c3 c4 c5 c6 c7 c8 c9 c10 d0 d1 d2 d3 d4 d5 d6 d7 d8 d9 d10 q0 q1 q2 q3 q4 q5 q6 q7 q8 q9 q10 s0 s1 s2 s3 s4 s5 s6 s7 s8 s9 s10; obtain ⟨c0, c1, c2, c3, c4, c5, c6, c7, c8, c9, c10⟩ := rbox_of (HALL.out _ (HFIN.out _ HX.out).1).1; obtain ⟨d0, d1, d2, d3, d4, d5, d6, d7, d8, d9, d10⟩ := rbox_of (HALL.out _ (HFIN.out _ HX.out).1).2.1; obtain ⟨q0, q1, q2, q3, q4, q5, q6, q7, q8, q9, q10⟩ := rbox_of (HFIN.out _ HX.out).2.2.1; obtain ⟨s0, s1, s2, s3, s4, s5, s6, s7, s8, s9, s10⟩ := rbox_of (HFIN.out _ HX.out).2.2.2.2))
  go_ret
  exact ⟨rfl, (HALL.out _ (HFIN.out _ HX.out).1).2.2.2.2⟩
end Go.Proofs.Ytjakckfmdfpekaa

namespace Go.Proofs.Ytjakckfmdfpekaa
open Go.ChangeShapes Go.WideShapes Go.ChangeAt Go.RowKit

set_option maxRecDepth 100000 in
theorem shapeRenumbers_lifted (os : Os) (started : os.Started) (H : Type) (enc : TypeId × Value → H) :
    ReturnsInHanded {} Try.checked os 4 .any (Rows.shapeRenumbersSpec.pre6 enc Try.prog Try.f4 Rows.shapeRenumbersRow.domain false) (Rows.shapeRenumbersSpec.post enc Try.prog Try.f4 false true false false) := by
  refine returnsInHanded_of_change_sized (C := Try.checked) ownNone started (by kernel_rfl) Try.func4
    (ChangeSpec.witness6 (enc := enc) (C := Try.checked) false ⟨#[], #[.agg #[.int .i64 0, .slice none 0 0, .slice none 0 0, .slice none 0 0, .slice none 0 0, .slice none 0 0, .slice none 0 0, .slice none 0 0, .slice none 0 0, .slice none 0 0, .slice none 0 0]], []⟩ 8 (by kernel_rfl) (by kernel_rfl) (by kernel_rfl) (by kernel_rfl)) ?_
  intro W base args ds gs before hval0 hW _ hsz0 _
  have hsz : (DataW.weightsEach Try.prog (Try.f4.params.toList ++ Rows.shapeRenumbersSpec.plain.varTypes Try.prog) (ds ++ gs)).all (· ≤ reachBytes) = true := hsz0
  have hval : ∀ (j : Nat) t v, Try.f4.params[j]? = some t → args[j]? = some v → Value.okWide Try.prog W .any base t v := hval0
  have hW' := hW
  obtain ⟨p, q, hA0, hV, rfl, hfz, hnd⟩ := hW
  have hA : DataW.TrodAll enc Try.prog W 0 (fun _ => true) true Try.f4.params.toList args.toList ds p := hA0
  have hA1 := hA
  rw [Try.params4] at hA hval hsz
  obtain ⟨v0, vs0, d0, ds0, p0, q0, hargs, rfl, rfl, h0, r0⟩ := trodAll_cons hA
  obtain ⟨rfl, rfl, rfl⟩ := trodAll_nil r0
  obtain rfl : args = #[v0] := by cases args; simp_all
  simp only [List.append_nil] at hA1 hW' hsz
  obtain ⟨rfl, rfl⟩ := trodVars_none hV
  clear hA0 hval0 hsz0
  try simp only [List.append_nil] at hW'
  have hlt : ∀ x ∈ p0, x.block < W.heap.size := fun x hx => hW'.lt x (by simpa using hx)
  obtain ⟨V0, C0, rfl, hin0, hok0, hrm0⟩ := arg_circR (hval 0 29 v0 rfl rfl) h0 (fun x hx => hlt x (by simp [hx])) (each_all hsz (j := 0) rfl rfl)
  refine (renums_walk W V0 C0 hin0 hok0 hrm0).mono fun e W' ⟨he, hbw⟩ => ?_
  subst he
  exact ⟨_, rfl, law_post rfl (by rw [Try.params4]; exact of_decide_eq_true (by kernel_rfl)) rfl hW' hA1 hlt rfl rfl rfl hbw⟩

theorem shapeRenumbers_over : Rows.shapeRenumbersRow.holds Try.pinned (OpenSpec.ofChange Rows.shapeRenumbersSpec) :=
  OpenClaim.holds_of_wide 4 Try.f4 rfl rfl rfl rfl rfl rfl rfl ⟨rfl, rfl, rfl, rfl, rfl⟩ rfl rfl rfl rfl rfl (by kernel_rfl) Try.func4 (by kernel_rfl)
    (of_decide_eq_true (by kernel_rfl)) (by unfold Func.isWrapper; first | (rw [if_pos (by decide +kernel)]; kernel_rfl) | (rw [if_neg (by decide +kernel)]; exact ⟨rfl, rfl⟩))
    (fun os started H enc _ => shapeRenumbers_lifted os started H enc)

/-- ShapeRenumbers: for every circuit the statement's Go function returns true and leaves its argument as it was. No condition. -/
theorem shapeRenumbers_holds : Rows.ShapeRenumbersSaid := shapeRenumbers_over
#print axioms shapeRenumbers_holds
end Go.Proofs.Ytjakckfmdfpekaa
