/- The walk of TernRows: for whatever rows and number the statement's Go function answers true, and nothing that was there has turned. -/
import Derived.Test.YtbeaicmjohlboaaDoorTrnX
import Derived.Test.YtbeaicmjohlboaaDoorTrnO
import Derived.Test.YtbeaicmjohlboaaDoorTrnS
namespace Go.Proofs.YtbeaicmjohlboaaDoor
open Go.RowKit

def joinI (A B : List Int) : List Int := if joinE A B = 0 then join3 A B else []
section
variable {w : World} {av bv : Value} {A B : List Int}
theorem joinE_ok (h : joinE A B = 0) : A.length ≤ 16384 ∧ A.length = B.length := by
  unfold joinE at h
  split at h
  · cases h
  · rename_i h1
    split at h
    · rename_i h2
      exact ⟨by omega, (okRow_iff.1 h2.1).1⟩
    · cases h
theorem tJoin_own (ha : RowE 1 encI w av A) (hb : RowE 1 encI w bv B) :
    Calls Tryd.prog 22 #[av, bv] w fun e w' => Below w.heap.size w w' ∧ ∃ v, e = .returned (.tuple #[v, .int .i64 (joinE A B)]) ∧ w'.ownsRow w.heap.size 3 1 v (joinI A B).length ((joinI A B).map (Value.int .i64)) := by
  refine (tJoin_any w av bv A B ha hb).mono ?_
  rintro e w' ⟨hb, v, rfl, hno, hyes⟩
  refine ⟨hb, v, rfl, ?_⟩
  unfold joinI
  by_cases h0 : joinE A B = 0
  · rw [if_pos h0]
    obtain ⟨g, rfl, hg, ht⟩ := hyes h0
    have hl : (join3 A B).length = A.length := join3_len A B (joinE_ok h0).2
    have := nums_ownT ht hg (by rw [hl]; have := (joinE_ok h0).1; unfold maxLen; omega)
    rw [hl] at this ⊢
    exact this
  · rw [if_neg h0, hno h0]; exact nil_ownI _ _
theorem rTJoin_own (ha : RowE 1 encI w av A) (hb : RowE 1 encI w bv B) :
    Calls Tryd.prog 23 #[av, bv] w fun e w' => Below w.heap.size w w' ∧ ∃ v, e = .returned (.tuple #[v, .int .i64 (joinE A B)]) ∧ w'.ownsRow w.heap.size 3 1 v (joinI A B).length ((joinI A B).map (Value.int .i64)) := by
  refine (rTJoin_any w av bv A B ha hb).mono ?_
  rintro e w' ⟨hb, v, rfl, hno, hyes⟩
  refine ⟨hb, v, rfl, ?_⟩
  unfold joinI
  by_cases h0 : joinE A B = 0
  · rw [if_pos h0]
    obtain ⟨g, rfl, hg, ht⟩ := hyes h0
    have hl : (join3 A B).length = A.length := join3_len A B (joinE_ok h0).2
    have := nums_ownT ht hg (by rw [hl]; have := (joinE_ok h0).1; unfold maxLen; omega)
    rw [hl] at this ⊢
    exact this
  · rw [if_neg h0, hno h0]; exact nil_ownI _ _
end

set_option maxHeartbeats 20000000 in
set_option maxRecDepth 100000 in
theorem ternRows_walk (w : World) (av : Value) (A : List Int) (bv : Value) (B : List Int) (l : Int) (htc : TabC w) (ha : RowE 1 encI w av A) (hab : A.length * 8 ≤ 140737488351232 ∧ ∀ z ∈ A, I64 z) (hb : RowE 1 encI w bv B) (hbb : B.length * 8 ≤ 140737488351232 ∧ ∀ z ∈ B, I64 z) (hl : I64 l) :
    Calls Tryd.prog 4 #[av, bv, .int .i64 l] w fun e w' => e = .returned (.bool true) ∧ Below w.heap.size w w' := by
  obtain ⟨aA, an, ac, hse⟩ := slT_form ha
  obtain ⟨bA, bn, bc, hre⟩ := slT_form hb
  subst hse hre
  have HA0 := Lib.hid ha
  have HB0 := Lib.hid hb
  have HTC0 := Lib.hid htc
  have HLA := Lib.hid (fun (wx : World) (hx : RowE 1 encI wx (.slice aA an ac) A) => LendInts_any wx _ A hx hab.1)
  have HLB := Lib.hid (fun (wx : World) (hx : RowE 1 encI wx (.slice bA bn bc) B) => LendInts_any wx _ B hx hbb.1)
  have HLIT := Lib.hid (fun (wx : World) (v : Value) (ht : TabC wx) (hx : RowE 1 encI wx v A) => tLit_any wx v A l ht hx hl.1 hl.2)
  have HRLIT := Lib.hid (fun (wx : World) (v : Value) (hx : RowE 1 encI wx v A) => rTLit_any wx v A l hx hl.1 hl.2)
  have HJ := Lib.hid (fun (wx : World) (v u : Value) (hx : RowE 1 encI wx v A) (hy : RowE 1 encI wx u B) => tJoin_own hx hy)
  have HRJ := Lib.hid (fun (wx : World) (v u : Value) (hx : RowE 1 encI wx v A) (hy : RowE 1 encI wx u B) => rTJoin_own hx hy)
  have HSAME := Lib.hid (fun (wx : World) (v u : Value) (zs : List Int) (hx : RowE 1 encI wx v zs) (hy : RowE 1 encI wx u zs) => (show Calls Tryd.prog 15 #[v, u] wx fun e w' => e = .returned (.bool true) ∧ Below wx.heap.size wx w' from by have := SameInts_any wx v u zs zs hx hy; rwa [decide_eq_true (rfl : zs = zs)] at this))
  generalize joinI A B = LJ at *
  generalize joinE A B = je at *
  generalize litE A l = le at *
  generalize litX A l = lx at *
  clear ha hab hb hbb hl htc
  go_enter Tryd.func4, Tryd.ntmps4
  go_upto_region 2 with (first
    | (go_at_call_of 10 aA; refine (HLA.out _ HA0.out).mono ?_; rintro e w2 ⟨lv, rfl, hlr, hb2⟩; obtain ⟨lA, ln, lc, hle⟩ := lentT_form hlr; subst hle; have HLR2 := Lib.hid hlr; have HB2 := Lib.hid hb2; clear hlr hb2)
    | (go_at_call_of 10 bA; refine (HLB.out _ (HB0.out.below HB2.out)).mono ?_; rintro e w3 ⟨lv, rfl, hlr, hb3⟩; obtain ⟨qA, qn, qc, hle⟩ := lentT_form hlr; subst hle; have HLR3 := Lib.hid hlr; have HB3 := Lib.hid hb3; clear hlr hb3))
  have HALL : Hid (∀ wz, Below w3.heap.size w3 wz → RowE 1 encI wz (.slice aA an ac) A ∧ RowE 1 encI wz (.slice bA bn bc) B ∧ Lent wz w.heap.size (.slice lA ln lc) A ∧ Lent wz w2.heap.size (.slice qA qn qc) B ∧ TabC wz ∧ Below w.heap.size w wz) := Lib.hid (fun wz h2 => by
    have h3 : Below w2.heap.size w2 wz := bt HB3.out (Nat.le_refl _) h2
    have h5 : Below w.heap.size w wz := bt HB2.out (Nat.le_refl _) h3
    exact ⟨HA0.out.below h5, HB0.out.below h5, HLR2.out.below h3, HLR3.out.below h2, HTC0.out.below h5, h5⟩)
  have HX : Hid (Below w3.heap.size w3 w3) := Lib.hid (Below.refl _ _)
  clear HB2 HB3 HLA HLB HLR2 HLR3 HA0 HB0 HTC0
  go_upto_region 3 with (go_at_call 20; refine (HLIT.out _ _ (HALL.out _ HX.out).2.2.2.2.1 (HALL.out _ HX.out).2.2.1.reads).mono ?_; rintro e w4 ⟨rfl, hw4⟩; rw [hw4]; clear hw4 w4)
  go_upto_region 4 with (go_at_call 21; refine (HRLIT.out _ _ (HALL.out _ HX.out).1).mono ?_; rintro e w4 ⟨rfl, hw4⟩; rw [hw4]; clear hw4 w4)
  go_upto_region 5 with (go_at_call 22; refine (HJ.out _ _ _ (HALL.out _ HX.out).2.2.1.reads (HALL.out _ HX.out).2.2.2.1.reads).mono ?_; rintro e w4 ⟨hb, v, rfl, ho⟩; obtain ⟨AHJ, cHJ, hve⟩ := own_slice_k ho; subst hve; have HN := Lib.hid (own_le ho HX.out.size); clear ho; have HXN := Lib.hid (bt HX.out (Nat.le_refl _) hb); clear HX hb; have HX := HXN; clear HXN)
  go_upto_region 6 with (go_at_call 23; refine (HRJ.out _ _ _ (HALL.out _ HX.out).1 (HALL.out _ HX.out).2.1).mono ?_; rintro e w5 ⟨hb, v, rfl, ho⟩; obtain ⟨AHK, cHK, hve⟩ := own_slice_k ho; subst hve; have THN := Lib.hid (own_below HN.out hb); clear HN; have HN := THN; clear THN; have HM := Lib.hid (own_le ho HX.out.size); clear ho; have HXN := Lib.hid (bt HX.out (Nat.le_refl _) hb); clear HX hb; have HX := HXN; clear HXN)
  go_upto_region 8 with (go_at_call 15; refine (HSAME.out _ _ _ LJ (own_rowI HN.out) (own_rowI HM.out)).mono ?_; rintro e w6 ⟨rfl, hb⟩; have THN := Lib.hid (own_below HN.out hb); clear HN; have HN := THN; clear THN; have HXN := Lib.hid (bt HX.out (Nat.le_refl _) hb); clear HX hb; have HX := HXN; clear HXN)
  go_upto_region 9 with (go_at_call 16; refine (SpoilInts_any _ _ _ _ _ _ HN.out).mono ?_; rintro e w7 ⟨rfl, hgr⟩; have HXN := Lib.hid (HX.out.grown hgr HX.out.size (fun k hk => (HN.out.lt k hk).1)); clear HX hgr; have HX := HXN; clear HXN)
  go_wp2_with (first
    | (go_at_call_of 18 lA; refine (KeptInts_any _ _ _ _ _ (HALL.out _ HX.out).2.2.1 (HALL.out _ HX.out).1).mono ?_; rintro e w8 ⟨rfl, hb⟩; have HXN := Lib.hid (bt HX.out (Nat.le_refl _) hb); clear HX hb; have HX := HXN; clear HXN)
    | (go_at_call_of 18 qA; refine (KeptInts_any _ _ _ _ _ (HALL.out _ HX.out).2.2.2.1 (HALL.out _ HX.out).2.1).mono ?_; rintro e w8 ⟨rfl, hb⟩; have HXN := Lib.hid (bt HX.out (Nat.le_refl _) hb); clear HX hb; have HX := HXN; clear HXN)
    | (go_at_call 19; refine (worksT_any _ (HALL.out _ HX.out).2.2.2.2.1).mono ?_; rintro e w8 ⟨rfl, hb⟩; have HXN := Lib.hid (bt HX.out (Nat.le_refl _) hb); clear HX hb; have HX := HXN; clear HXN))
  go_ret
  exact ⟨rfl, (HALL.out _ HX.out).2.2.2.2.2⟩
end Go.Proofs.YtbeaicmjohlboaaDoor
