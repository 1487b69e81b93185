/- The walk of SimSteps: for whatever circuit, state and row the statement's Go function answers true, and nothing that was there has turned. -/
import Derived.Test.YtdladffjenfikaaSStarts
import Derived.Test.YtdladffjenfikaaSimO
namespace Go.Proofs.Ytdladffjenfikaa
open Go.RowKit

/-- What is answered, also of what is refused. -/
def valA (C : Circ) (O : List Int) (st row : List Bool) : List Bool := if fitE C st row = 0 then valF C O st row else []
def nextA (C : Circ) (O : List Int) (st row : List Bool) : List Bool := if fitE C st row = 0 then nextF C (valF C O st row) else []
def holdsA (C : Circ) (O : List Int) (st row : List Bool) : Bool := if fitE C st row = 0 then holdsF C (valF C O st row) else false
theorem apV_of {w w' : World} {B n n' k k' : Nat} {t t' : TypeId} {u v : Value} {xs ys : List Value} (h : w.ownsRow B t k u n xs) (h2 : w'.ownsRow w.heap.size t' k' v n' ys) : ApV u v := fun g hu hv => by
  have h3 := (h.lt g hu).2
  have h4 := (h2.lt g hv).1
  omega
theorem own_spoil {w w' : World} {B n k : Nat} {t : TypeId} {u v : Value} {xs : List Value} (h : w.ownsRow B t k v n xs) (ha : ApV u v) (hg : w.grownBy w' u.ownBlock) : w'.ownsRow B t k v n xs :=
  own_of_block h (fun g hv => hg.block g (h.lt g hv).2 (fun e => ha g e.symm hv))
section
variable {w : World} {V : CV} {C : Circ} {sv rv : Value} {st row : List Bool} {O : List Int}
theorem nil_own (w : World) (B : Nat) : w.ownsRow B 4 1 (.slice none 0 0) ([] : List Bool).length (([] : List Bool).map Value.bool) := ⟨rfl, .inl ⟨rfl, rfl⟩⟩
theorem Values_own (h : C.In w V) (ok : C.Ok) (hs : RowE 1 encO w sv st) (hr : RowE 1 encO w rv row) (hO : (checkR C).2 = 0 → IsOrd C O) :
    Calls Try.prog 11 #[V.val C.max, sv, rv] w fun e w' => Below w.heap.size w w' ∧ ∃ v, e = .returned (.tuple #[v, .int .i64 (fitE C st row)]) ∧ w'.ownsRow w.heap.size 4 1 v (valA C O st row).length ((valA C O st row).map Value.bool) := by
  refine (Values_any w V C sv rv st row O h ok hs hr hO).mono ?_
  rintro e w' ⟨hb, v, rfl, hno, hyes⟩
  refine ⟨hb, v, rfl, ?_⟩
  unfold valA
  by_cases h0 : fitE C st row = 0
  · rw [if_pos h0]
    obtain ⟨g, rfl, hg, ht⟩ := hyes h0
    have := tab_ownO ht hg (by rw [valF_len]; have := (right_of (fitE_ok h0).1).m1; unfold maxLen; omega)
    rw [valF_len] at this ⊢
    exact this
  · rw [if_neg h0, hno h0]; exact nil_own _ _
theorem rValues_own (h : C.In w V) (ok : C.Ok) (htn : ∀ s ∈ C.comments, s.size ≤ maxLen) (hs : RowE 1 encO w sv st) (hr : RowE 1 encO w rv row) (hO : (checkR C).2 = 0 → IsOrd C O) :
    Calls Try.prog 12 #[V.val C.max, sv, rv] w fun e w' => Below w.heap.size w w' ∧ ∃ v, e = .returned (.tuple #[v, .int .i64 (fitE C st row)]) ∧ w'.ownsRow w.heap.size 4 1 v (valA C O st row).length ((valA C O st row).map Value.bool) := by
  refine (rValues_any w V C sv rv st row O h ok htn hs hr hO).mono ?_
  rintro e w' ⟨hb, v, rfl, hno, hyes⟩
  refine ⟨hb, v, rfl, ?_⟩
  unfold valA
  by_cases h0 : fitE C st row = 0
  · rw [if_pos h0]
    obtain ⟨g, rfl, hg, ht⟩ := hyes h0
    have := tab_ownO ht hg (by rw [valF_len]; have := (right_of (fitE_ok h0).1).m1; unfold maxLen; omega)
    rw [valF_len] at this ⊢
    exact this
  · rw [if_neg h0, hno h0]; exact nil_own _ _
theorem Next_own (h : C.In w V) (ok : C.Ok) (hs : RowE 1 encO w sv st) (hr : RowE 1 encO w rv row) (hO : (checkR C).2 = 0 → IsOrd C O) :
    Calls Try.prog 13 #[V.val C.max, sv, rv] w fun e w' => Below w.heap.size w w' ∧ ∃ v, e = .returned (.tuple #[v, .int .i64 (fitE C st row)]) ∧ w'.ownsRow w.heap.size 4 1 v (nextA C O st row).length ((nextA C O st row).map Value.bool) := by
  refine (Next_any w V C sv rv st row O h ok hs hr hO).mono ?_
  rintro e w' ⟨hb, v, rfl, hno, hyes⟩
  refine ⟨hb, v, rfl, ?_⟩
  unfold nextA
  by_cases h0 : fitE C st row = 0
  · rw [if_pos h0]
    obtain ⟨g, rfl, hg, ht⟩ := hyes h0
    have := tab_ownO ht hg (by rw [nextF_len]; have := (right_of (fitE_ok h0).1).nl; unfold maxLen; omega)
    rw [nextF_len] at this ⊢
    exact this
  · rw [if_neg h0, hno h0]; exact nil_own _ _
theorem rNext_own (h : C.In w V) (ok : C.Ok) (htn : ∀ s ∈ C.comments, s.size ≤ maxLen) (hs : RowE 1 encO w sv st) (hr : RowE 1 encO w rv row) (hO : (checkR C).2 = 0 → IsOrd C O) :
    Calls Try.prog 14 #[V.val C.max, sv, rv] w fun e w' => Below w.heap.size w w' ∧ ∃ v, e = .returned (.tuple #[v, .int .i64 (fitE C st row)]) ∧ w'.ownsRow w.heap.size 4 1 v (nextA C O st row).length ((nextA C O st row).map Value.bool) := by
  refine (rNext_any w V C sv rv st row O h ok htn hs hr hO).mono ?_
  rintro e w' ⟨hb, v, rfl, hno, hyes⟩
  refine ⟨hb, v, rfl, ?_⟩
  unfold nextA
  by_cases h0 : fitE C st row = 0
  · rw [if_pos h0]
    obtain ⟨g, rfl, hg, ht⟩ := hyes h0
    have := tab_ownO ht hg (by rw [nextF_len]; have := (right_of (fitE_ok h0).1).nl; unfold maxLen; omega)
    rw [nextF_len] at this ⊢
    exact this
  · rw [if_neg h0, hno h0]; exact nil_own _ _
theorem Holds_own (h : C.In w V) (ok : C.Ok) (hs : RowE 1 encO w sv st) (hr : RowE 1 encO w rv row) (hO : (checkR C).2 = 0 → IsOrd C O) :
    Calls Try.prog 15 #[V.val C.max, sv, rv] w fun e w' => e = .returned (.tuple #[.bool (holdsA C O st row), .int .i64 (fitE C st row)]) ∧ Below w.heap.size w w' := by
  refine (Holds_any w V C sv rv st row O h ok hs hr hO).mono ?_
  rintro e w' ⟨hb, v, rfl, hno, hyes⟩
  refine ⟨?_, hb⟩
  unfold holdsA
  by_cases h0 : fitE C st row = 0
  · rw [if_pos h0, hyes h0]
  · rw [if_neg h0, hno h0]
theorem rHolds_own (h : C.In w V) (ok : C.Ok) (htn : ∀ s ∈ C.comments, s.size ≤ maxLen) (hs : RowE 1 encO w sv st) (hr : RowE 1 encO w rv row) (hO : (checkR C).2 = 0 → IsOrd C O) :
    Calls Try.prog 16 #[V.val C.max, sv, rv] w fun e w' => e = .returned (.tuple #[.bool (holdsA C O st row), .int .i64 (fitE C st row)]) ∧ Below w.heap.size w w' := by
  refine (rHolds_any w V C sv rv st row O h ok htn hs hr hO).mono ?_
  rintro e w' ⟨hb, v, rfl, hno, hyes⟩
  refine ⟨?_, hb⟩
  unfold holdsA
  by_cases h0 : fitE C st row = 0
  · rw [if_pos h0, hyes h0]
  · rw [if_neg h0, hno h0]
end
theorem own_rowO {w : World} {B : Nat} {v : Value} {L : List Bool} (h : w.ownsRow B 4 1 v L.length (L.map Value.bool)) : RowE 1 encO w v L := own_rowe lenO (by rw [flat_bools]; exact h)

set_option maxHeartbeats 20000000 in
set_option maxRecDepth 100000 in
theorem simSteps_walk (w : World) (V : CV) (C : Circ) (sv : Value) (st : List Bool) (rv : Value) (row : List Bool) (h : C.In w V) (ok : C.Ok) (rm : C.Room ∧ C.Reach) (hs : RowE 1 encO w sv st) (hsb : st.length ≤ 140737488351232) (hr : RowE 1 encO w rv row) (hrb : row.length ≤ 140737488351232) :
    Calls Try.prog 3 #[V.val C.max, sv, rv] w fun e w' => e = .returned (.bool true) ∧ Below w.heap.size w w' := by
  obtain ⟨rm, re⟩ := rm
  obtain ⟨O, hO⟩ := ord_ex h ok
  have hb0 := (Below.refl w.heap.size w).alloc (Nat.le_refl _) (.cells (V.cells C.max) 29)
  have HLEND := Lib.hid (LendCircuit_any (w.alloc (.cells (V.cells C.max) 29)) V C (h.below hb0) rm ⟨re.i, re.o, re.b, re.c, re.f, re.l, re.a⟩)
  have HIN0 := Lib.hid (h.below hb0)
  have HB0 := Lib.hid hb0
  have HS0 := Lib.hid hs
  have HR0 := Lib.hid hr
  have hbx0 := Blk.new w 29 (V.cells C.max)
  obtain ⟨sA, sn, sc, hse⟩ := slO_form hs
  obtain ⟨rA, rn, rc, hre⟩ := slO_form hr
  subst hse hre
  obtain ⟨Vi, Vl, Vo, Vb, Vc, Vj, Vf, Va, Vs, Vt⟩ := V
  obtain ⟨m, hmm⟩ : ∃ m, C.max = m := ⟨_, rfl⟩
  have HLT := Lib.hid (fun (wx : World) (hx : RowE 1 encO wx (.slice sA sn sc) st) => lent_any wx _ st hx hsb)
  have HLR := Lib.hid (fun (wx : World) (hx : RowE 1 encO wx (.slice rA rn rc) row) => lent_any wx _ row hx hrb)
  have HVAL := Lib.hid (fun (wx : World) (U : CV) (v u : Value) (hx : C.In wx U) (hy : RowE 1 encO wx v st) (hz : RowE 1 encO wx u row) => Values_own hx ok hy hz hO)
  have HRVAL := Lib.hid (fun (wx : World) (U : CV) (v u : Value) (hx : C.In wx U) (hy : RowE 1 encO wx v st) (hz : RowE 1 encO wx u row) => rValues_own hx ok re.t hy hz hO)
  have HNEX := Lib.hid (fun (wx : World) (U : CV) (v u : Value) (hx : C.In wx U) (hy : RowE 1 encO wx v st) (hz : RowE 1 encO wx u row) => Next_own hx ok hy hz hO)
  have HRNEX := Lib.hid (fun (wx : World) (U : CV) (v u : Value) (hx : C.In wx U) (hy : RowE 1 encO wx v st) (hz : RowE 1 encO wx u row) => rNext_own hx ok re.t hy hz hO)
  have HHOL := Lib.hid (fun (wx : World) (U : CV) (v u : Value) (hx : C.In wx U) (hy : RowE 1 encO wx v st) (hz : RowE 1 encO wx u row) => Holds_own hx ok hy hz hO)
  have HRHOL := Lib.hid (fun (wx : World) (U : CV) (v u : Value) (hx : C.In wx U) (hy : RowE 1 encO wx v st) (hz : RowE 1 encO wx u row) => rHolds_own hx ok re.t hy hz hO)
  have HKEPT := Lib.hid (fun (wx : World) (B : Nat) (V U : CV) (us : List Value) (hl : LentC wx B C us V) (hx : C.In wx U) => KeptCircuit_any wx B V U C us hl hx)
  have HSAME := Lib.hid (fun (wx : World) (v u : Value) (zs : List Bool) (hx : RowE 1 encO wx v zs) (hy : RowE 1 encO wx u zs) => (show Calls Try.prog 17 #[v, u] wx fun e w' => e = .returned (.bool true) ∧ Below wx.heap.size wx w' from by have := SameO_any wx v u zs zs hx hy; rwa [decide_eq_true (rfl : zs = zs)] at this))
  rw [hmm] at HLEND HIN0 HB0 hbx0 HKEPT HVAL HRVAL HNEX HRNEX HHOL HRHOL
  rw [hmm]
  have HBX0 := Lib.hid hbx0
  obtain ⟨c0, c1, c2, c3, c4, c5, c6, c7, c8, c9, c10⟩ := rbox_of hbx0
  generalize valA C O st row = LA at *
  generalize nextA C O st row = LX at *
  generalize holdsA C O st row = hh at *
  generalize fitE C st row = fe at *
  clear h ok rm re hb0 hmm hbx0 hs hsb hr hrb hO
  go_enter Try.func3, Try.ntmps3
  go_upto_region 2 with (first
    | (go_at_call 9; refine HLEND.out.mono ?_; rintro e w1 ⟨U, us, rfl, hb1, hl1⟩; obtain ⟨Ui, Ul, Uo, Ub, Uc, Uj, Uf, Ua, Us, Ut⟩ := U; obtain ⟨A0, n0, k0, hf0⟩ := sl_form hl1.in_.i; simp only at hf0; subst hf0; obtain ⟨A1, n1, k1, hf1⟩ := sl_form hl1.in_.l; simp only at hf1; subst hf1; obtain ⟨A2, n2, k2, hf2⟩ := sl_form hl1.in_.o; simp only at hf2; subst hf2; obtain ⟨A3, n3, k3, hf3⟩ := sl_form hl1.in_.b; simp only at hf3; subst hf3; obtain ⟨A4, n4, k4, hf4⟩ := sl_form hl1.in_.c; simp only at hf4; subst hf4; obtain ⟨A5, n5, k5, hf5⟩ := sl_formL hl1.in_.j; simp only at hf5; subst hf5; obtain ⟨A6, n6, k6, hf6⟩ := sl_form hl1.in_.f; simp only at hf6; subst hf6; obtain ⟨A7, n7, k7, hf7⟩ := sl_form hl1.in_.a; simp only at hf7; subst hf7; obtain ⟨A8, n8, k8, hf8⟩ := sl_form hl1.in_.s; simp only at hf8; subst hf8; obtain ⟨A9, n9, k9, hf9⟩ := sl_form hl1.in_.t; simp only at hf9; subst hf9; have HL1 := Lib.hid hl1; have HB1 := Lib.hid hb1; clear hb1 hl1 c0 c1 c2 c3 c4 c5 c6 c7 c8 c9 c10)
    | (go_at_call_of 10 sA; refine (HLT.out _ ((HS0.out.below HB0.out).below HB1.out)).mono ?_; rintro e w2 ⟨lv, rfl, hlr, hb2⟩; obtain ⟨lA, ln, lc, hle⟩ := slO_form hlr; subst hle; have HLR2 := Lib.hid hlr; have HB2 := Lib.hid hb2; clear hlr hb2)
    | (go_at_call_of 10 rA; refine (HLR.out _ (((HR0.out.below HB0.out).below HB1.out).below HB2.out)).mono ?_; rintro e w3 ⟨lv, rfl, hlr, hb3⟩; obtain ⟨qA, qn, qc, hle⟩ := slO_form hlr; subst hle; have HLR3 := Lib.hid hlr; have HB3 := Lib.hid hb3; clear hlr hb3))
  have HALL : Hid (∀ wz, Below (w3.alloc (.cells #[.int .i64 m, .slice A0 n0 k0, .slice A1 n1 k1, .slice A2 n2 k2, .slice A3 n3 k3, .slice A4 n4 k4, .slice A5 n5 k5, .slice A6 n6 k6, .slice A7 n7 k7, .slice A8 n8 k8, .slice A9 n9 k9] 29)).heap.size (w3.alloc (.cells #[.int .i64 m, .slice A0 n0 k0, .slice A1 n1 k1, .slice A2 n2 k2, .slice A3 n3 k3, .slice A4 n4 k4, .slice A5 n5 k5, .slice A6 n6 k6, .slice A7 n7 k7, .slice A8 n8 k8, .slice A9 n9 k9] 29)) wz → Blk wz w.heap.size 29 #[.int .i64 m, Vi, Vl, Vo, Vb, Vc, Vj, Vf, Va, Vs, Vt] ∧ Blk wz w3.heap.size 29 #[.int .i64 m, .slice A0 n0 k0, .slice A1 n1 k1, .slice A2 n2 k2, .slice A3 n3 k3, .slice A4 n4 k4, .slice A5 n5 k5, .slice A6 n6 k6, .slice A7 n7 k7, .slice A8 n8 k8, .slice A9 n9 k9] ∧ C.In wz ⟨Vi, Vl, Vo, Vb, Vc, Vj, Vf, Va, Vs, Vt⟩ ∧ LentC wz (w.alloc (.cells #[.int .i64 m, Vi, Vl, Vo, Vb, Vc, Vj, Vf, Va, Vs, Vt] 29)).heap.size C us ⟨.slice A0 n0 k0, .slice A1 n1 k1, .slice A2 n2 k2, .slice A3 n3 k3, .slice A4 n4 k4, .slice A5 n5 k5, .slice A6 n6 k6, .slice A7 n7 k7, .slice A8 n8 k8, .slice A9 n9 k9⟩ ∧ RowE 1 encO wz (.slice sA sn sc) st ∧ RowE 1 encO wz (.slice rA rn rc) row ∧ RowE 1 encO wz (.slice lA ln lc) st ∧ RowE 1 encO wz (.slice qA qn qc) row ∧ Below w.heap.size w wz) := Lib.hid (fun wz hb => by
    have h2 : Below w3.heap.size w3 wz := bt ((Below.refl w3.heap.size w3).alloc (Nat.le_refl _) _) (Nat.le_refl _) hb
    have h2b : Below w2.heap.size w2 wz := bt HB3.out (Nat.le_refl _) h2
    have h3 : Below w1.heap.size w1 wz := bt HB2.out (Nat.le_refl _) h2b
    have h4 : Below (w.alloc (.cells #[.int .i64 m, Vi, Vl, Vo, Vb, Vc, Vj, Vf, Va, Vs, Vt] 29)).heap.size (w.alloc (.cells #[.int .i64 m, Vi, Vl, Vo, Vb, Vc, Vj, Vf, Va, Vs, Vt] 29)) wz := bt HB1.out (Nat.le_refl _) h3
    have h5 := HB0.out.trans (h4.mono (by simp))
    exact ⟨HBX0.out.below h4 HBX0.out.lt, (Blk.new w3 _ _).below hb (by simp), HIN0.out.below h4, HL1.out.below h3, HS0.out.below h5, HR0.out.below h5, HLR2.out.below h2b, HLR3.out.below h2, h5⟩)
  have HX : Hid (Below (w3.alloc (.cells #[.int .i64 m, .slice A0 n0 k0, .slice A1 n1 k1, .slice A2 n2 k2, .slice A3 n3 k3, .slice A4 n4 k4, .slice A5 n5 k5, .slice A6 n6 k6, .slice A7 n7 k7, .slice A8 n8 k8, .slice A9 n9 k9] 29)).heap.size (w3.alloc (.cells #[.int .i64 m, .slice A0 n0 k0, .slice A1 n1 k1, .slice A2 n2 k2, .slice A3 n3 k3, .slice A4 n4 k4, .slice A5 n5 k5, .slice A6 n6 k6, .slice A7 n7 k7, .slice A8 n8 k8, .slice A9 n9 k9] 29)) (w3.alloc (.cells #[.int .i64 m, .slice A0 n0 k0, .slice A1 n1 k1, .slice A2 n2 k2, .slice A3 n3 k3, .slice A4 n4 k4, .slice A5 n5 k5, .slice A6 n6 k6, .slice A7 n7 k7, .slice A8 n8 k8, .slice A9 n9 k9] 29))) := Lib.hid (Below.refl _ _)
  clear HL1 HB1 HB2 HB3 HLEND HLT HLR HIN0 HB0 HBX0 HLR2 HLR3 HS0 HR0
  generalize hg2 : w3.heap.size = g2 at *
  generalize w3.alloc (.cells #[.int .i64 m, .slice A0 n0 k0, .slice A1 n1 k1, .slice A2 n2 k2, .slice A3 n3 k3, .slice A4 n4 k4, .slice A5 n5 k5, .slice A6 n6 k6, .slice A7 n7 k7, .slice A8 n8 k8, .slice A9 n9 k9] 29) = X at *
  clear hg2
  obtain ⟨c0, c1, c2, c3, c4, c5, c6, c7, c8, c9, c10⟩ := rbox_of (HALL.out _ HX.out).1
  obtain ⟨d0, d1, d2, d3, d4, d5, d6, d7, d8, d9, d10⟩ := rbox_of (HALL.out _ HX.out).2.1
  go_upto_region 3 with (go_at_call 11; refine (HVAL.out _ _ _ _ (HALL.out _ HX.out).2.2.2.1.in_ (HALL.out _ HX.out).2.2.2.2.2.2.1 (HALL.out _ HX.out).2.2.2.2.2.2.2.1).mono ?_; rintro e w3 ⟨hb, v, rfl, ho⟩; obtain ⟨AHA, cHA, hve⟩ := own_slice1 ho; subst hve; have HA := Lib.hid (own_le ho HX.out.size); clear ho; have HXN := Lib.hid (bt HX.out (Nat.le_refl _) hb); clear HX hb c0 c1 c2 c3 c4 c5 c6 c7 c8 c9 c10 d0 d1 d2 d3 d4 d5 d6 d7 d8 d9 d10; have HX := HXN; clear HXN; obtain ⟨c0, c1, c2, c3, c4, c5, c6, c7, c8, c9, c10⟩ := rbox_of (HALL.out _ HX.out).1; obtain ⟨d0, d1, d2, d3, d4, d5, d6, d7, d8, d9, d10⟩ := rbox_of (HALL.out _ HX.out).2.1)
  go_upto_region 4 with (go_at_call 11; refine (HVAL.out _ _ _ _ (HALL.out _ HX.out).2.2.2.1.in_ (HALL.out _ HX.out).2.2.2.2.2.2.1 (HALL.out _ HX.out).2.2.2.2.2.2.2.1).mono ?_; rintro e w3 ⟨hb, v, rfl, ho⟩; obtain ⟨AHG, cHG, hve⟩ := own_slice1 ho; subst hve; have APHAHG := Lib.hid (apV_of HA.out ho); have THA := Lib.hid (own_below HA.out hb); clear HA; have HA := THA; clear THA; have HG := Lib.hid (own_le ho HX.out.size); clear ho; have HXN := Lib.hid (bt HX.out (Nat.le_refl _) hb); clear HX hb c0 c1 c2 c3 c4 c5 c6 c7 c8 c9 c10 d0 d1 d2 d3 d4 d5 d6 d7 d8 d9 d10; have HX := HXN; clear HXN; obtain ⟨c0, c1, c2, c3, c4, c5, c6, c7, c8, c9, c10⟩ := rbox_of (HALL.out _ HX.out).1; obtain ⟨d0, d1, d2, d3, d4, d5, d6, d7, d8, d9, d10⟩ := rbox_of (HALL.out _ HX.out).2.1)
  go_upto_region 5 with (go_at_call 12; refine (HRVAL.out _ _ _ _ (HALL.out _ HX.out).2.2.1 (HALL.out _ HX.out).2.2.2.2.1 (HALL.out _ HX.out).2.2.2.2.2.1).mono ?_; rintro e w3 ⟨hb, v, rfl, ho⟩; obtain ⟨AHB, cHB, hve⟩ := own_slice1 ho; subst hve; have APHAHB := Lib.hid (apV_of HA.out ho); have THA := Lib.hid (own_below HA.out hb); clear HA; have HA := THA; clear THA; have THG := Lib.hid (own_below HG.out hb); clear HG; have HG := THG; clear THG; have HB := Lib.hid (own_le ho HX.out.size); clear ho; have HXN := Lib.hid (bt HX.out (Nat.le_refl _) hb); clear HX hb c0 c1 c2 c3 c4 c5 c6 c7 c8 c9 c10 d0 d1 d2 d3 d4 d5 d6 d7 d8 d9 d10; have HX := HXN; clear HXN; obtain ⟨c0, c1, c2, c3, c4, c5, c6, c7, c8, c9, c10⟩ := rbox_of (HALL.out _ HX.out).1; obtain ⟨d0, d1, d2, d3, d4, d5, d6, d7, d8, d9, d10⟩ := rbox_of (HALL.out _ HX.out).2.1)
  go_upto_region 6 with (go_at_call 13; refine (HNEX.out _ _ _ _ (HALL.out _ HX.out).2.2.2.1.in_ (HALL.out _ HX.out).2.2.2.2.2.2.1 (HALL.out _ HX.out).2.2.2.2.2.2.2.1).mono ?_; rintro e w3 ⟨hb, v, rfl, ho⟩; obtain ⟨AHN, cHN, hve⟩ := own_slice1 ho; subst hve; have APHAHN := Lib.hid (apV_of HA.out ho); have APHGHN := Lib.hid (apV_of HG.out ho); have APHBHN := Lib.hid (apV_of HB.out ho); have THA := Lib.hid (own_below HA.out hb); clear HA; have HA := THA; clear THA; have THG := Lib.hid (own_below HG.out hb); clear HG; have HG := THG; clear THG; have THB := Lib.hid (own_below HB.out hb); clear HB; have HB := THB; clear THB; have HN := Lib.hid (own_le ho HX.out.size); clear ho; have HXN := Lib.hid (bt HX.out (Nat.le_refl _) hb); clear HX hb c0 c1 c2 c3 c4 c5 c6 c7 c8 c9 c10 d0 d1 d2 d3 d4 d5 d6 d7 d8 d9 d10; have HX := HXN; clear HXN; obtain ⟨c0, c1, c2, c3, c4, c5, c6, c7, c8, c9, c10⟩ := rbox_of (HALL.out _ HX.out).1; obtain ⟨d0, d1, d2, d3, d4, d5, d6, d7, d8, d9, d10⟩ := rbox_of (HALL.out _ HX.out).2.1)
  go_upto_region 7 with (go_at_call 14; refine (HRNEX.out _ _ _ _ (HALL.out _ HX.out).2.2.1 (HALL.out _ HX.out).2.2.2.2.1 (HALL.out _ HX.out).2.2.2.2.2.1).mono ?_; rintro e w3 ⟨hb, v, rfl, ho⟩; obtain ⟨AHM, cHM, hve⟩ := own_slice1 ho; subst hve; have THA := Lib.hid (own_below HA.out hb); clear HA; have HA := THA; clear THA; have THG := Lib.hid (own_below HG.out hb); clear HG; have HG := THG; clear THG; have THB := Lib.hid (own_below HB.out hb); clear HB; have HB := THB; clear THB; have THN := Lib.hid (own_below HN.out hb); clear HN; have HN := THN; clear THN; have HM := Lib.hid (own_le ho HX.out.size); clear ho; have HXN := Lib.hid (bt HX.out (Nat.le_refl _) hb); clear HX hb c0 c1 c2 c3 c4 c5 c6 c7 c8 c9 c10 d0 d1 d2 d3 d4 d5 d6 d7 d8 d9 d10; have HX := HXN; clear HXN; obtain ⟨c0, c1, c2, c3, c4, c5, c6, c7, c8, c9, c10⟩ := rbox_of (HALL.out _ HX.out).1; obtain ⟨d0, d1, d2, d3, d4, d5, d6, d7, d8, d9, d10⟩ := rbox_of (HALL.out _ HX.out).2.1)
  go_upto_region 8 with (go_at_call 15; refine (HHOL.out _ _ _ _ (HALL.out _ HX.out).2.2.2.1.in_ (HALL.out _ HX.out).2.2.2.2.2.2.1 (HALL.out _ HX.out).2.2.2.2.2.2.2.1).mono ?_; rintro e w3 ⟨rfl, hb⟩; have THA := Lib.hid (own_below HA.out hb); clear HA; have HA := THA; clear THA; have THG := Lib.hid (own_below HG.out hb); clear HG; have HG := THG; clear THG; have THB := Lib.hid (own_below HB.out hb); clear HB; have HB := THB; clear THB; have THN := Lib.hid (own_below HN.out hb); clear HN; have HN := THN; clear THN; have THM := Lib.hid (own_below HM.out hb); clear HM; have HM := THM; clear THM; have HXN := Lib.hid (bt HX.out (Nat.le_refl _) hb); clear HX hb c0 c1 c2 c3 c4 c5 c6 c7 c8 c9 c10 d0 d1 d2 d3 d4 d5 d6 d7 d8 d9 d10; have HX := HXN; clear HXN; obtain ⟨c0, c1, c2, c3, c4, c5, c6, c7, c8, c9, c10⟩ := rbox_of (HALL.out _ HX.out).1; obtain ⟨d0, d1, d2, d3, d4, d5, d6, d7, d8, d9, d10⟩ := rbox_of (HALL.out _ HX.out).2.1)
  go_upto_region 9 with (go_at_call 16; refine (HRHOL.out _ _ _ _ (HALL.out _ HX.out).2.2.1 (HALL.out _ HX.out).2.2.2.2.1 (HALL.out _ HX.out).2.2.2.2.2.1).mono ?_; rintro e w3 ⟨rfl, hb⟩; have THA := Lib.hid (own_below HA.out hb); clear HA; have HA := THA; clear THA; have THG := Lib.hid (own_below HG.out hb); clear HG; have HG := THG; clear THG; have THB := Lib.hid (own_below HB.out hb); clear HB; have HB := THB; clear THB; have THN := Lib.hid (own_below HN.out hb); clear HN; have HN := THN; clear THN; have THM := Lib.hid (own_below HM.out hb); clear HM; have HM := THM; clear THM; have HXN := Lib.hid (bt HX.out (Nat.le_refl _) hb); clear HX hb c0 c1 c2 c3 c4 c5 c6 c7 c8 c9 c10 d0 d1 d2 d3 d4 d5 d6 d7 d8 d9 d10; have HX := HXN; clear HXN; obtain ⟨c0, c1, c2, c3, c4, c5, c6, c7, c8, c9, c10⟩ := rbox_of (HALL.out _ HX.out).1; obtain ⟨d0, d1, d2, d3, d4, d5, d6, d7, d8, d9, d10⟩ := rbox_of (HALL.out _ HX.out).2.1)
  go_upto_region 11 with (first
    | (go_at_call_of 17 AHA; refine (HSAME.out _ _ _ LA (own_rowO HA.out) (own_rowO HB.out)).mono ?_; rintro e w4 ⟨rfl, hb⟩; have THA := Lib.hid (own_below HA.out hb); clear HA; have HA := THA; clear THA; have THG := Lib.hid (own_below HG.out hb); clear HG; have HG := THG; clear THG; have THB := Lib.hid (own_below HB.out hb); clear HB; have HB := THB; clear THB; have THN := Lib.hid (own_below HN.out hb); clear HN; have HN := THN; clear THN; have THM := Lib.hid (own_below HM.out hb); clear HM; have HM := THM; clear THM; have HXN := Lib.hid (bt HX.out (Nat.le_refl _) hb); clear HX hb c0 c1 c2 c3 c4 c5 c6 c7 c8 c9 c10 d0 d1 d2 d3 d4 d5 d6 d7 d8 d9 d10; have HX := HXN; clear HXN; obtain ⟨c0, c1, c2, c3, c4, c5, c6, c7, c8, c9, c10⟩ := rbox_of (HALL.out _ HX.out).1; obtain ⟨d0, d1, d2, d3, d4, d5, d6, d7, d8, d9, d10⟩ := rbox_of (HALL.out _ HX.out).2.1)
    | (go_at_call_of 17 AHN; refine (HSAME.out _ _ _ LX (own_rowO HN.out) (own_rowO HM.out)).mono ?_; rintro e w4 ⟨rfl, hb⟩; have THA := Lib.hid (own_below HA.out hb); clear HA; have HA := THA; clear THA; have THG := Lib.hid (own_below HG.out hb); clear HG; have HG := THG; clear THG; have THB := Lib.hid (own_below HB.out hb); clear HB; have HB := THB; clear THB; have THN := Lib.hid (own_below HN.out hb); clear HN; have HN := THN; clear THN; have THM := Lib.hid (own_below HM.out hb); clear HM; have HM := THM; clear THM; have HXN := Lib.hid (bt HX.out (Nat.le_refl _) hb); clear HX hb c0 c1 c2 c3 c4 c5 c6 c7 c8 c9 c10 d0 d1 d2 d3 d4 d5 d6 d7 d8 d9 d10; have HX := HXN; clear HXN; obtain ⟨c0, c1, c2, c3, c4, c5, c6, c7, c8, c9, c10⟩ := rbox_of (HALL.out _ HX.out).1; obtain ⟨d0, d1, d2, d3, d4, d5, d6, d7, d8, d9, d10⟩ := rbox_of (HALL.out _ HX.out).2.1))
  go_upto_region 12 with (go_at_call 18; refine (SpoilO_any _ _ _ _ _ rfl HA.out).mono ?_; rintro e w4 ⟨rfl, hgr⟩; have THG := Lib.hid (own_spoil HG.out (APHAHG.out) hgr); clear HG; have HG := THG; clear THG; have THB := Lib.hid (own_spoil HB.out (APHAHB.out) hgr); clear HB; have HB := THB; clear THB; have THN := Lib.hid (own_spoil HN.out (APHAHN.out) hgr); clear HN; have HN := THN; clear THN; have HXN := Lib.hid (HX.out.grown hgr HX.out.size (fun k hk => (HA.out.lt k hk).1)); clear HX hgr c0 c1 c2 c3 c4 c5 c6 c7 c8 c9 c10 d0 d1 d2 d3 d4 d5 d6 d7 d8 d9 d10; have HX := HXN; clear HXN; obtain ⟨c0, c1, c2, c3, c4, c5, c6, c7, c8, c9, c10⟩ := rbox_of (HALL.out _ HX.out).1; obtain ⟨d0, d1, d2, d3, d4, d5, d6, d7, d8, d9, d10⟩ := rbox_of (HALL.out _ HX.out).2.1)
  go_upto_region 13 with (go_at_call 18; refine (SpoilO_any _ _ _ _ _ rfl HN.out).mono ?_; rintro e w4 ⟨rfl, hgr⟩; have THG := Lib.hid (own_spoil HG.out ((fun g a b => APHGHN.out g b a)) hgr); clear HG; have HG := THG; clear THG; have THB := Lib.hid (own_spoil HB.out ((fun g a b => APHBHN.out g b a)) hgr); clear HB; have HB := THB; clear THB; have HXN := Lib.hid (HX.out.grown hgr HX.out.size (fun k hk => (HN.out.lt k hk).1)); clear HX hgr c0 c1 c2 c3 c4 c5 c6 c7 c8 c9 c10 d0 d1 d2 d3 d4 d5 d6 d7 d8 d9 d10; have HX := HXN; clear HXN; obtain ⟨c0, c1, c2, c3, c4, c5, c6, c7, c8, c9, c10⟩ := rbox_of (HALL.out _ HX.out).1; obtain ⟨d0, d1, d2, d3, d4, d5, d6, d7, d8, d9, d10⟩ := rbox_of (HALL.out _ HX.out).2.1)
  go_wp2_with (first
    | (go_at_call_of 17 AHG; refine (HSAME.out _ _ _ LA (own_rowO HG.out) (own_rowO HB.out)).mono ?_; rintro e w4 ⟨rfl, hb⟩; have HXN := Lib.hid (bt HX.out (Nat.le_refl _) hb); clear HX hb c0 c1 c2 c3 c4 c5 c6 c7 c8 c9 c10 d0 d1 d2 d3 d4 d5 d6 d7 d8 d9 d10; have HX := HXN; clear HXN; obtain ⟨c0, c1, c2, c3, c4, c5, c6, c7, c8, c9, c10⟩ := rbox_of (HALL.out _ HX.out).1; obtain ⟨d0, d1, d2, d3, d4, d5, d6, d7, d8, d9, d10⟩ := rbox_of (HALL.out _ HX.out).2.1)
    | (go_at_call 19; refine (HKEPT.out _ _ _ _ _ (HALL.out _ HX.out).2.2.2.1 (HALL.out _ HX.out).2.2.1).mono ?_; rintro e w4 ⟨rfl, hb⟩; have HXN := Lib.hid (bt HX.out (Nat.le_refl _) hb); clear HX hb c0 c1 c2 c3 c4 c5 c6 c7 c8 c9 c10 d0 d1 d2 d3 d4 d5 d6 d7 d8 d9 d10; have HX := HXN; clear HXN; obtain ⟨c0, c1, c2, c3, c4, c5, c6, c7, c8, c9, c10⟩ := rbox_of (HALL.out _ HX.out).1; obtain ⟨d0, d1, d2, d3, d4, d5, d6, d7, d8, d9, d10⟩ := rbox_of (HALL.out _ HX.out).2.1)
    | (go_at_call_of 17 lA; refine (HSAME.out _ _ _ st (HALL.out _ HX.out).2.2.2.2.2.2.1 (HALL.out _ HX.out).2.2.2.2.1).mono ?_; rintro e w4 ⟨rfl, hb⟩; have HXN := Lib.hid (bt HX.out (Nat.le_refl _) hb); clear HX hb c0 c1 c2 c3 c4 c5 c6 c7 c8 c9 c10 d0 d1 d2 d3 d4 d5 d6 d7 d8 d9 d10; have HX := HXN; clear HXN; obtain ⟨c0, c1, c2, c3, c4, c5, c6, c7, c8, c9, c10⟩ := rbox_of (HALL.out _ HX.out).1; obtain ⟨d0, d1, d2, d3, d4, d5, d6, d7, d8, d9, d10⟩ := rbox_of (HALL.out _ HX.out).2.1)
    | (go_at_call_of 17 qA; refine (HSAME.out _ _ _ row (HALL.out _ HX.out).2.2.2.2.2.2.2.1 (HALL.out _ HX.out).2.2.2.2.2.1).mono ?_; rintro e w4 ⟨rfl, hb⟩; have HXN := Lib.hid (bt HX.out (Nat.le_refl _) hb); clear HX hb c0 c1 c2 c3 c4 c5 c6 c7 c8 c9 c10 d0 d1 d2 d3 d4 d5 d6 d7 d8 d9 d10; have HX := HXN; clear HXN; obtain ⟨c0, c1, c2, c3, c4, c5, c6, c7, c8, c9, c10⟩ := rbox_of (HALL.out _ HX.out).1; obtain ⟨d0, d1, d2, d3, d4, d5, d6, d7, d8, d9, d10⟩ := rbox_of (HALL.out _ HX.out).2.1)
    | (go_at_call 20; refine (worksS_any _).mono ?_; rintro e w4 ⟨rfl, hb⟩; have HXN := Lib.hid (bt HX.out (Nat.le_refl _) hb); clear HX hb c0 c1 c2 c3 c4 c5 c6 c7 c8 c9 c10 d0 d1 d2 d3 d4 d5 d6 d7 d8 d9 d10; have HX := HXN; clear HXN; obtain ⟨c0, c1, c2, c3, c4, c5, c6, c7, c8, c9, c10⟩ := rbox_of (HALL.out _ HX.out).1; obtain ⟨d0, d1, d2, d3, d4, d5, d6, d7, d8, d9, d10⟩ := rbox_of (HALL.out _ HX.out).2.1))
  go_ret
  exact ⟨rfl, (HALL.out _ HX.out).2.2.2.2.2.2.2.2⟩
end Go.Proofs.Ytdladffjenfikaa
