/- The document's Unpack and Shift. -/
import Derived.Test.YthchemgkfjmhjaaRefRow
import Derived.Test.YthchemgkfjmhjaaShift
namespace Go.Proofs.Ythchemgkfjmhjaa
open Go.RowKit

/-- The first k bits of words. -/
def upart (ws : List Nat) (k i : Nat) : Bool := if i < k then wbit ws i else false
theorem upart_step (ws : List Nat) (k i : Nat) : (if i = k then wbit ws k else upart ws k i) = upart ws (k + 1) i := by
  unfold upart
  by_cases h : i = k
  · subst h; rw [if_pos rfl, if_pos (by omega)]
  · rw [if_neg h]
    by_cases h2 : i < k
    · rw [if_pos h2, if_pos (by omega)]
    · rw [if_neg h2, if_neg (by omega)]

/-- What Unpack answers, its error being r. -/
def UnpPost (w : World) (ws : List Nat) (n r : Int) (e : Ending) (w' : World) : Prop :=
  ∃ v', e = .returned (.tuple #[v', .int .i64 r]) ∧ Below w.heap.size w w' ∧ ((r = 0 ∧ w'.ownsRow w.heap.size 4 1 v' n.toNat (bls (rowL ws n.toNat))) ∨ (r ≠ 0 ∧ v' = .slice none 0 0))
theorem unp_bad {w w' : World} {ws : List Nat} {n r : Int} {e : Ending} (he : e = .returned (.tuple #[.slice none 0 0, .int .i64 r])) (hb : Below w.heap.size w w') (hr : r ≠ 0) : UnpPost w ws n r e w' := ⟨_, he, hb, .inr ⟨hr, rfl⟩⟩

set_option maxHeartbeats 4000000 in
set_option maxRecDepth 100000 in
theorem RUnpack_any (w : World) (v : Value) (ws : List Nat) (n : Int) (h : Row w v (wds ws)) (hw : ∀ x ∈ ws, x < 2 ^ 64) (hl8 : ws.length * 8 ≤ 140737488351232) (hn : -9223372036854775808 ≤ n ∧ n ≤ 9223372036854775807) :
    Calls Try.prog 24 #[v, .int .i64 n] w (UnpPost w ws n (rowE ws n)) := by
  have H := Lib.hid h
  obtain ⟨A, c, rfl, _, _, h3⟩ := h
  rw [List.length_map] at H ⊢
  have HC := Lib.hid h3
  have hlen : (ws.length : Int) ≤ 17592186043904 := by omega
  clear h3
  by_cases g1 : n < 0
  · rw [rowE_out (.inl g1)]
    go_enter Try.func24, Try.ntmps24
    go_wp2
    go_ret2
    exact unp_bad rfl (Below.refl _ _) (by omega)
  · by_cases g2 : 16384 < n
    · rw [rowE_out (.inr g2)]
      go_enter Try.func24, Try.ntmps24
      go_wp2
      go_ret2
      exact unp_bad rfl (Below.refl _ _) (by omega)
    · obtain ⟨m, rfl⟩ := Int.eq_ofNat_of_zero_le (show 0 ≤ n by omega)
      have hm : m ≤ 16384 := by omega
      have hsm := fun wx vx hx hy => Same_any wx vx (.slice A ws.length c) (packL (rowL ws m)) ws hx hy
      have hE : rowE ws m = if packL (rowL ws m) = ws then 0 else 4 := by unfold rowE; rw [if_neg (by omega), Int.toNat_natCast]
      by_cases g3 : ws.length = (m + 63) / 64
      · have q3 : ((ws.length : Int) != ((m : Int) + 63) / 64) = false := by simp; omega
        have hrl := rowL_len ws m
        have hrow : mkb m (upart ws m) = rowL ws m := mkb_congr fun i hi => by unfold upart; rw [if_pos hi]
        have hpk := fun wx vx hx => Rpack_any wx vx (rowL ws m) hx (by rw [rowL_len]; exact hm)
        have hmk := fun wx => make_bools m (by omega) wx
        have HMD := Lib.hid (made_bools w m (by unfold maxLen; omega))
        have HROW := Lib.hid hrow
        have HE := Lib.hid hE
        have HW := Lib.hid hw
        have G3 := Lib.hid g3
        have HPK := Lib.hid hpk
        have HSM := Lib.hid hsm
        generalize hr : rowE ws m = r
        have HR := Lib.hid hr
        clear hrow hE hw g3 hpk hsm hrl hr
        go_enter Try.func24, Try.ntmps24
        go_wp2
        go_loopw [7] (fun i wr => ∃ k : Nat, k ≤ m ∧ i = .int .i64 k ∧ Below w.heap.size w wr ∧ wr.ownsRow w.heap.size 4 1 (.slice (some ⟨w.heap.size, 0, none⟩) m m) m (bls (mkb m (upart ws k)))) (fun i _ => m - (intOf i).toNat)
        case atStart =>
          refine ⟨0, by omega, rfl, (Below.refl _ _).alloc (Nat.le_refl _) _, ?_⟩
          rw [show mkb m (upart ws 0) = mkb m fun _ => false from mkb_congr fun i _ => by unfold upart; rw [if_neg (by omega)]]
          exact HMD.out
        case round =>
          obtain ⟨k, hk, rfl, hbw, how⟩ := hrel
          by_cases hlt : k < m
          · have hq : k / 64 < ws.length := by have := G3.out; omega
            have hcell0 : wr.drew.cell? ⟨w.heap.size, k, none⟩ = some (.bool (bit (mkb m (upart ws k)) k)) := by
              rw [show wr.drew.cell? ⟨w.heap.size, k, none⟩ = wr.cell? ⟨w.heap.size, k, none⟩ from rfl, how.cellAt k (by omega)]
              simp [bit, List.getD, hlt]
            have hfr : wr.drew.frozen? ⟨w.heap.size, k, none⟩ = false := how.frozenAt k
            have hst := (how.stored k (.bool (wbit ws k))).1
            rw [map_set m k (upart ws k) Value.bool (wbit ws k) hlt, show (fun j => if j = k then wbit ws k else upart ws k j) = upart ws (k + 1) from funext (upart_step ws k)] at hst
            obtain ⟨b, off, rfl, _, hcell1⟩ := (HC.out.below hbw).word (k / 64) hq
            have hcell1 : wr.drew.cell? ⟨b, off + k / 64, none⟩ = _ := hcell1
            have htwo := fun wx => Two_any (k % 64) wx (by omega)
            have hwb : wbit ws k = decide (ws.getD (k / 64) 0 / 2 ^ (k % 64) % 2 = 1) := by unfold wbit; rw [Nat.testBit_eq_decide_div_mod_eq]
            have hxl : ws.getD (k / 64) 0 < 18446744073709551616 := by
              have : ws.getD (k / 64) 0 ∈ ws := by simp [List.getD, hq]
              exact HW.out _ this
            have hpos : 0 < 2 ^ (k % 64) := Nat.pow_pos (by omega)
            have hzx : ws.getD (k / 64) 0 / 2 ^ (k % 64) ≤ ws.getD (k / 64) 0 := Nat.div_le_self _ _
            generalize bit (mkb m (upart ws k)) k = y0 at hcell0
            have hkq : (k : Int) / 64 = ((k / 64 : Nat) : Int) := by omega
            have hkr : (k : Int).tmod 64 = ((k % 64 : Nat) : Int) := by rw [Int.tmod_eq_emod_of_nonneg (by omega)]; omega
            have hqb : ((k / 64 : Nat) : Int) ≤ 256 := by omega
            generalize k / 64 = q at *
            generalize k % 64 = r' at *
            generalize ws.getD q 0 = x at *
            have hdv : (x : Int) / ((2 ^ r' : Nat) : Int) = ((x / 2 ^ r' : Nat) : Int) := by push_cast; rfl
            have hdt : (x : Int).tdiv ((2 ^ r' : Nat) : Int) = ((x / 2 ^ r' : Nat) : Int) := by rw [Int.tdiv_eq_ediv_of_nonneg (by omega)]; exact hdv
            generalize 2 ^ r' = p at *
            generalize x / p = z at *
            have hwq : IntKind.i64.wrap (q : Int) = (q : Int) := by rw [IntKind.wrap_i64]; omega
            have hwz : IntKind.u64.wrap (z : Int) = (z : Int) := by simp [IntKind.wrap, IntKind.bits, IntKind.signed]; omega
            have hqi : (q : Int) < (ws.length : Int) := by omega
            have HBW := Lib.hid hbw
            have hp0 : p ≠ 0 := by omega
            have hp1 : ¬ (p : Int) = 0 := by omega
            have hp2 : ((p : Int) == 0) = false := by simpa using hp0
            by_cases hodd : z % 2 = 1
            · have hzt : (z : Int).tmod 2 = 1 := by rw [Int.tmod_eq_emod_of_nonneg (by omega)]; omega
              have hzt2 : (z : Int) % 2 = 1 := by omega
              rw [hwb, decide_eq_true hodd] at hst
              have HST := Lib.hid hst
              clear hst hbw how hwb hodd hxl hzx hpos
              go_wp2
              go_region_with (go_at_call 39; refine (htwo _).mono ?_; rintro e w' ⟨rfl, rfl⟩)
              all_goals go_wp2
              all_goals go_roundw
              all_goals first
                | exact ⟨k + 1, by omega, by go_num, (HBW.out.setCell (Nat.le_refl _) _).drew, World.ownsRow.drew HST.out⟩
                | (simp [intOf]; omega)
            · have hzt : (z : Int).tmod 2 = 0 := by rw [Int.tmod_eq_emod_of_nonneg (by omega)]; omega
              have hzt2 : (z : Int) % 2 = 0 := by omega
              rw [hwb, decide_eq_false hodd] at hst
              have HST := Lib.hid hst
              clear hst hbw how hwb hodd hxl hzx hpos
              go_wp2
              go_region_with (go_at_call 39; refine (htwo _).mono ?_; rintro e w' ⟨rfl, rfl⟩)
              all_goals go_wp2
              all_goals go_roundw
              all_goals first
                | exact ⟨k + 1, by omega, by go_num, (HBW.out.setCell (Nat.le_refl _) _).drew, World.ownsRow.drew HST.out⟩
                | (simp [intOf]; omega)
          · have : k = m := by omega
            subst this
            rw [HROW.out] at how
            have hE := HE.out
            rw [HR.out] at hE
            by_cases g4 : packL (rowL ws k) = ws
            · rw [if_pos g4] at hE
              subst hE
              have HOW := Lib.hid how
              have HBW := Lib.hid hbw
              have G4 := Lib.hid (decide_eq_true g4)
              clear how hbw g4
              go_wp2_with (first
                | (go_at_call 36; refine (HPK.out _ _ (own_row HOW.out)).mono ?_; rintro e w2 ⟨v2, rfl, hb2, ho2⟩; have HB2 := Lib.hid (bt HBW.out (Nat.le_refl _) hb2); have HO2 := Lib.hid (own_row ho2); have HR2 := Lib.hid (own_keep HOW.out hb2); clear hb2 ho2)
                | (go_at_call 16; refine (HSM.out _ _ HO2.out (H.out.below HB2.out)).mono ?_; rw [G4.out]; rintro e w3 ⟨rfl, hb3⟩; have HB3 := Lib.hid (bt HB2.out (Nat.le_refl _) hb3); have HR3 := Lib.hid (own_keep HR2.out hb3); clear hb3))
              go_ret2
              exact ⟨_, rfl, HB3.out, .inl ⟨rfl, by rw [Int.toNat_natCast]; exact HR3.out⟩⟩
            · rw [if_neg g4] at hE
              subst hE
              have HOW := Lib.hid how
              have HBW := Lib.hid hbw
              have G4 := Lib.hid (decide_eq_false g4)
              clear how hbw g4
              go_wp2_with (first
                | (go_at_call 36; refine (HPK.out _ _ (own_row HOW.out)).mono ?_; rintro e w2 ⟨v2, rfl, hb2, ho2⟩; have HB2 := Lib.hid (bt HBW.out (Nat.le_refl _) hb2); have HO2 := Lib.hid (own_row ho2); clear hb2 ho2)
                | (go_at_call 16; refine (HSM.out _ _ HO2.out (H.out.below HB2.out)).mono ?_; rw [G4.out]; rintro e w3 ⟨rfl, hb3⟩; have HB3 := Lib.hid (bt HB2.out (Nat.le_refl _) hb3); clear hb3))
              go_ret2
              exact unp_bad rfl HB3.out (by omega)
      · have hne : ¬ packL (rowL ws m) = ws := fun e => g3 ((isRow_iff hw).1 e).1
        rw [hE, if_neg hne]
        have q3 : ((ws.length : Int) != ((m : Int) + 63) / 64) = true := by simp; omega
        clear hne hE hsm
        go_enter Try.func24, Try.ntmps24
        go_wp2
        go_ret2
        exact unp_bad rfl (Below.refl _ _) (by omega)
end Go.Proofs.Ythchemgkfjmhjaa
