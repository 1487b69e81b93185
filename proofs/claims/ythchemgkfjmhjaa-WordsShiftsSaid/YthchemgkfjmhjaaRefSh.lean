/- The document's Shift. -/
import Derived.Test.YthchemgkfjmhjaaRefUnp
namespace Go.Proofs.Ythchemgkfjmhjaa
open Go.RowKit

/-- The first k bits of a shifted row. -/
def spart (bs : List Bool) (a : Int) (k i : Nat) : Bool := if i < k then bit (shiftL bs a) i else false
theorem spart_step (bs : List Bool) (a : Int) (k i : Nat) : (if i = k then bit (shiftL bs a) k else spart bs a k i) = spart bs a (k + 1) i := by
  unfold spart
  by_cases h : i = k
  · subst h; rw [if_pos rfl, if_pos (by omega)]
  · rw [if_neg h]
    by_cases h2 : i < k
    · rw [if_pos h2, if_pos (by omega)]
    · rw [if_neg h2, if_neg (by omega)]
theorem spart_skip {bs : List Bool} {a : Int} {k : Nat} (h : bit (shiftL bs a) k = false) : spart bs a k = spart bs a (k + 1) := by
  funext i
  unfold spart
  by_cases h1 : i < k
  · rw [if_pos h1, if_pos (by omega)]
  · rw [if_neg h1]
    by_cases h2 : i < k + 1
    · rw [if_pos h2, show i = k by omega, h]
    · rw [if_neg h2]

/-- What Shift answers, its error being r. -/
def ShPost (w : World) (ws : List Nat) (n a r : Int) (e : Ending) (w' : World) : Prop :=
  ∃ v', e = .returned (.tuple #[v', .int .i64 r]) ∧ Below w.heap.size w w' ∧ ((r = 0 ∧ w'.ownsRow w.heap.size 32 1 v' (packL (shiftL (rowL ws n.toNat) a)).length (wds (packL (shiftL (rowL ws n.toNat) a)))) ∨ (r ≠ 0 ∧ v' = .slice none 0 0))
theorem sh_bad {w w' : World} {ws : List Nat} {n a r : Int} {e : Ending} (he : e = .returned (.tuple #[.slice none 0 0, .int .i64 r])) (hb : Below w.heap.size w w') (hr : r ≠ 0) : ShPost w ws n a r e w' := ⟨_, he, hb, .inr ⟨hr, rfl⟩⟩

set_option maxHeartbeats 4000000 in
set_option maxRecDepth 100000 in
theorem RShift_any (w : World) (v : Value) (ws : List Nat) (n a : Int) (h : Row w v (wds ws)) (hw : ∀ x ∈ ws, x < 2 ^ 64) (hl8 : ws.length * 8 ≤ 140737488351232) (hn : -9223372036854775808 ≤ n ∧ n ≤ 9223372036854775807) (ha : -9223372036854775808 ≤ a ∧ a ≤ 9223372036854775807) :
    Calls Try.prog 26 #[v, .int .i64 n, .int .i64 a] w (ShPost w ws n a (rowE ws n)) := by
  by_cases g1 : n < 0
  · rw [rowE_out (.inl g1)]
    go_enter Try.func26, Try.ntmps26
    go_wp2
    go_ret2
    exact sh_bad rfl (Below.refl _ _) (by omega)
  · by_cases g2 : 16384 < n
    · rw [rowE_out (.inr g2)]
      go_enter Try.func26, Try.ntmps26
      go_wp2
      go_ret2
      exact sh_bad rfl (Below.refl _ _) (by omega)
    · obtain ⟨m, rfl⟩ := Int.eq_ofNat_of_zero_le (show 0 ≤ n by omega)
      have hm : m ≤ 16384 := by omega
      have hu := RUnpack_any w v ws m h hw hl8 hn
      have hE := rowE_zero (ws := ws) (n := (m : Int))
      by_cases hr0 : rowE ws m = 0
      · rw [hr0] at hu ⊢
        have hrl := rowL_len ws m
        unfold UnpPost at hu
        unfold ShPost
        rw [Int.toNat_natCast] at hu ⊢
        generalize rowL ws m = bs at hu hrl ⊢
        have hpk := fun wx vx hx => Rpack_any wx vx (shiftL bs a) hx (by rw [shiftL_len, hrl]; exact hm)
        have hsrow : mkb m (spart bs a m) = shiftL bs a := by
          refine (mkb_congr fun i hi => ?_).trans (by rw [← hrl, ← shiftL_len bs a]; exact mkb_of _)
          unfold spart; rw [if_pos hi]
        have hmk := fun wx => make_bools m (by omega) wx
        have hmd := fun wx => made_bools wx m (by unfold maxLen; omega)
        have HMD := Lib.hid hmd
        have HPK := Lib.hid hpk
        have HSR := Lib.hid hsrow
        have HRL := Lib.hid hrl
        have HU := Lib.hid hu
        clear hmd hpk hsrow hrl hu hE hr0 h hw
        go_enter Try.func26, Try.ntmps26
        go_wp2_with (go_at_call 24; refine HU.out.mono ?_; rintro e w1 ⟨v1, rfl, hb1, hor⟩; rcases hor with ⟨_, ho1⟩ | ⟨hne, _⟩; rotate_left; (exact absurd rfl hne); obtain ⟨A1, c1, rfl, _, hc1m, hc1⟩ := own_row ho1; rw [List.length_map, HRL.out]; have HB1 := Lib.hid hb1; have HC1 := Lib.hid hc1; clear hb1 ho1 hc1)
        go_loopw [11] (fun i wr => ∃ k : Nat, k ≤ m ∧ i = .int .i64 k ∧ Below w1.heap.size w1 wr ∧ wr.ownsRow w1.heap.size 4 1 (.slice (some ⟨w1.heap.size, 0, none⟩) m m) m (bls (mkb m (spart bs a k)))) (fun i _ => m - (intOf i).toNat)
        case atStart =>
          refine ⟨0, by omega, rfl, (Below.refl _ _).alloc (Nat.le_refl _) _, ?_⟩
          rw [show mkb m (spart bs a 0) = mkb m fun _ => false from mkb_congr fun i _ => by unfold spart; rw [if_neg (by omega)]]
          exact HMD.out w1
        case round =>
          obtain ⟨k, hk, rfl, hbw, how⟩ := hrel
          by_cases hlt : k < m
          · have hsk := spart_skip (bs := bs) (a := a) (k := k)
            have hsb := shiftL_bit bs a k (by rw [HRL.out]; exact hlt)
            by_cases c1 : -(m : Int) < a ∧ a < m ∧ 0 ≤ (k : Int) - a ∧ (k : Int) - a < m
            · obtain ⟨c1, c2, c3, c4⟩ := c1
              obtain ⟨j, hj⟩ := Int.eq_ofNat_of_zero_le c3
              rw [if_pos c3, hj, Int.toNat_natCast] at hsb
              have hjm : j < m := by omega
              have hcell0 : wr.cell? ⟨w1.heap.size, k, none⟩ = some (.bool (bit (mkb m (spart bs a k)) k)) := by
                rw [how.cellAt k (by omega)]
                simp [bit, List.getD, hlt]
              have hfr := how.frozenAt k
              have hst := (how.stored k (.bool (bit (shiftL bs a) k))).1
              rw [map_set m k (spart bs a k) Value.bool (bit (shiftL bs a) k) hlt, show (fun j => if j = k then bit (shiftL bs a) k else spart bs a k j) = spart bs a (k + 1) from funext (spart_step bs a k), hsb] at hst
              obtain ⟨b, off, rfl, _, hcell1⟩ := (HC1.out.below hbw).bit j (by rw [HRL.out]; exact hjm)
              generalize bit (mkb m (spart bs a k)) k = y0 at hcell0
              generalize bit bs j = y1 at hcell1 hst
              have HST := Lib.hid hst
              have HBW := Lib.hid hbw
              clear hst hbw how hsb hsk
              go_wp2
              go_roundw
              case rel => exact ⟨k + 1, by omega, by go_num, HBW.out.setCell (Nat.le_refl _) _, HST.out⟩
              case measure => simp [intOf]; omega
            · have hf : bit (shiftL bs a) k = false := by
                rw [hsb]
                by_cases c3 : 0 ≤ (k : Int) - a
                · rw [if_pos c3]
                  unfold bit
                  have := HRL.out
                  rw [List.getD, List.getElem?_eq_none (by omega)]; rfl
                · rw [if_neg c3]
              rw [hsk hf] at how
              have HOW := Lib.hid how
              have HBW := Lib.hid hbw
              clear how hbw hsk hsb hf
              by_cases d1 : -(m : Int) < a
              · have q1 : decide (-(m : Int) < a) = true := decide_eq_true d1
                by_cases d2 : a < (m : Int)
                · have q2 : decide (a < (m : Int)) = true := decide_eq_true d2
                  by_cases d3 : 0 ≤ (k : Int) - a
                  · have q3 : decide (0 ≤ (k : Int) - a) = true := decide_eq_true d3
                    have q4 : decide ((k : Int) - a < (m : Int)) = false := decide_eq_false (by omega)
                    clear c1
                    go_wp2
                    go_roundw
                    case rel => exact ⟨k + 1, by omega, by go_num, HBW.out, HOW.out⟩
                    case measure => simp [intOf]; omega
                  · have q3 : decide (0 ≤ (k : Int) - a) = false := decide_eq_false d3
                    clear c1
                    go_wp2
                    go_roundw
                    case rel => exact ⟨k + 1, by omega, by go_num, HBW.out, HOW.out⟩
                    case measure => simp [intOf]; omega
                · have q2 : decide (a < (m : Int)) = false := decide_eq_false d2
                  clear c1
                  go_wp2
                  go_roundw
                  case rel => exact ⟨k + 1, by omega, by go_num, HBW.out, HOW.out⟩
                  case measure => simp [intOf]; omega
              · have q1 : decide (-(m : Int) < a) = false := decide_eq_false d1
                clear c1
                go_wp2
                go_roundw
                case rel => exact ⟨k + 1, by omega, by go_num, HBW.out, HOW.out⟩
                case measure => simp [intOf]; omega
          · have : k = m := by omega
            subst this
            rw [HSR.out] at how
            have HOW := Lib.hid how
            have HBW := Lib.hid hbw
            clear how hbw
            go_wp2_with (go_at_call 36; refine (HPK.out _ _ (own_row HOW.out)).mono ?_; rintro e w2 ⟨v2, rfl, hb2, ho2⟩; have HB2 := Lib.hid (bt (bt HB1.out (Nat.le_refl _) HBW.out) (Nat.le_refl _) hb2); have HO2 := Lib.hid ho2; clear hb2 ho2)
            go_ret2
            exact ⟨_, rfl, HB2.out, .inl ⟨trivial, own_mono HO2.out (Nat.le_trans HB1.out.size HBW.out.size)⟩⟩
      · have q : (rowE ws m != 0) = true := by simpa using hr0
        generalize rowE ws m = r at hu hr0 q ⊢
        have HU := Lib.hid hu
        have HR := Lib.hid hr0
        clear hu hr0 hE h hw
        go_enter Try.func26, Try.ntmps26
        go_wp2_with (go_at_call 24; refine HU.out.mono ?_; rintro e w1 ⟨v1, rfl, hb1, _⟩)
        go_ret2
        exact sh_bad rfl hb1 HR.out
end Go.Proofs.Ythchemgkfjmhjaa
