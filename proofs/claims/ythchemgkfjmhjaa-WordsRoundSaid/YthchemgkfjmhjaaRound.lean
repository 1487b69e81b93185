/- WordsRound's walk: a row's words, text and number lead back to it. -/
import Derived.Test.YthchemgkfjmhjaaWorks2
import Derived.Test.YthchemgkfjmhjaaBits
import Derived.Test.YthchemgkfjmhjaaSame
namespace Go.Proofs.Ythchemgkfjmhjaa
open Go.RowKit

def cnt (bs : List Bool) : Nat := (bs.map Bool.toNat).sum
theorem cnt_next {bs : List Bool} {k : Nat} (hk : k < bs.length) : cnt (bs.take (k + 1)) = cnt (bs.take k) + (bit bs k).toNat := by
  unfold cnt
  rw [List.take_succ_eq_append_getElem hk]
  simp only [List.map_append, List.sum_append, List.map_cons, List.map_nil, List.sum_cons, List.sum_nil, bit, List.getD]
  rw [List.getElem?_eq_getElem hk]; rfl
theorem cnt_le (bs : List Bool) : cnt bs ≤ bs.length := by
  induction bs with
  | nil => simp [cnt]
  | cons b bs ih =>
    unfold cnt at ih ⊢
    simp only [List.map_cons, List.sum_cons, List.length_cons]
    cases b <;> simp <;> omega
theorem sum_range_get (bs : List Bool) : ((List.range bs.length).map fun j => (bit bs j).toNat).sum = cnt bs := by
  unfold cnt
  congr 1
  apply List.ext_getElem (by simp)
  intro i h1 h2
  have h3 : i < bs.length := by simpa using h1
  simp [bit, List.getD, h3]
theorem sum_zero : ∀ l : List Nat, (∀ x ∈ l, x = 0) → l.sum = 0 := by
  intro l
  induction l with
  | nil => simp
  | cons x l ih => intro h; rw [List.sum_cons, h x (by simp), ih (fun y hy => h y (by simp [hy]))]
theorem sum_blocks (g : Nat → Nat) (m : Nat) : ∀ L, ((List.range L).map fun i => ((List.range m).map fun j => g (m * i + j)).sum).sum = ((List.range (m * L)).map g).sum := by
  intro L
  induction L with
  | zero => simp
  | succ L ih =>
    rw [List.range_succ, List.map_append, List.sum_append, ih, Nat.mul_succ, List.range_add]
    simp [List.map_append, List.sum_append, List.map_map, Function.comp_def]
theorem pops_packL (bs : List Bool) : pops (packL bs) = cnt bs := by
  unfold pops packL
  rw [List.map_map]
  have e : (fun i => pop (nb (fun j => bit bs (64 * i + j)) 64)) = fun i => ((List.range 64).map fun j => (bit bs (64 * i + j)).toNat).sum := funext fun i => pop_nb _ 64
  show ((List.range _).map fun i => pop (nb (fun j => bit bs (64 * i + j)) 64)).sum = _
  rw [e, sum_blocks (fun i => (bit bs i).toNat) 64, ← sum_range_get]
  obtain ⟨d, hd⟩ : ∃ d, 64 * ((bs.length + 63) / 64) = bs.length + d := ⟨64 * ((bs.length + 63) / 64) - bs.length, by omega⟩
  rw [hd, List.range_add, List.map_append, List.sum_append]
  have z : ((List.map (bs.length + ·) (List.range d)).map fun i => (bit bs i).toNat).sum = 0 := by
    apply sum_zero
    intro x hx
    obtain ⟨i, hi, rfl⟩ := List.mem_map.1 hx
    obtain ⟨j, _, rfl⟩ := List.mem_map.1 hi
    unfold bit
    rw [List.getD, List.getElem?_eq_none (by omega)]; rfl
  rw [z]; omega

theorem text_size (bs : List Bool) : (strOf (textL bs)).size = bs.length := by rw [strOf_size]; simp [textL]
theorem text_byte (bs : List Bool) (i : Nat) (h : i < (strOf (textL bs)).size) : (strOf (textL bs))[i].toNat = if bit bs i then 49 else 48 := by
  have h2 : i < bs.length := by rw [← text_size]; exact h
  have e : (strOf (textL bs))[i] = dig (bit bs i) := by
    show (textL bs).toArray[i]'(by simpa [textL] using h2) = _
    simp [textL, bit, List.getD, h2]
  rw [e]; unfold dig
  cases bit bs i <;> rfl
theorem text_good (bs : List Bool) : GoodTo (strOf (textL bs)) (strOf (textL bs)).size := by
  intro i h _
  rw [text_byte bs i h]
  cases bit bs i
  · left; rfl
  · right; rfl
theorem text_back (bs : List Bool) : mkb (strOf (textL bs)).size (sbit (strOf (textL bs))) = bs := by
  rw [text_size]
  refine (mkb_congr fun i hi => ?_).trans (mkb_of bs)
  have h : i < (strOf (textL bs)).size := by rw [text_size]; exact hi
  rw [sbit_at h, text_byte bs i h]
  cases bit bs i <;> rfl
theorem index_back (bs : List Bool) : mkb bs.length (fun i => (nb (bit bs) bs.length).testBit i) = bs := by
  refine (mkb_congr fun i hi => ?_).trans (mkb_of bs)
  rw [nb_bit]; simp [hi]

theorem keep_cells {B : Nat} {w w' : World} {b : Nat} {x y : Value} (hb : Below w.heap.size w w') (hz : b < w.heap.size) (h0 : w.cell? ⟨b, 0, none⟩ = some x) (h1 : w.cell? ⟨b, 1, none⟩ = some y) : w'.cell? ⟨b, 0, none⟩ = some x ∧ w'.cell? ⟨b, 1, none⟩ = some y := ⟨(hb.cell (p := ⟨b, 0, none⟩) hz).trans h0, (hb.cell (p := ⟨b, 1, none⟩) hz).trans h1⟩

set_option maxHeartbeats 4000000 in
set_option maxRecDepth 100000 in
theorem round_walk (w : World) (v : Value) (bs : List Bool) (h : Row w v (bls bs)) (hlb : bs.length * 1 ≤ 140737488351232) :
    Calls Try.prog 8 #[v] w fun e w' => e = .returned (.bool true) ∧ Below w.heap.size w w' := by
  have HR := Lib.hid h
  by_cases hn : 16384 < bs.length
  · have hp := fun wx hx => Pack_bad wx v bs hx hn
    have ht := fun wx hx => Text_bad wx v bs hx hn
    obtain ⟨A, c, rfl, h1, h2, h3⟩ := h
    rw [List.length_map] at hp ht ⊢
    rw [List.length_map] at HR
    have hem : (strOf []).toList.isEmpty = true := by decide +kernel
    clear h1 h2 h3
    go_enter Try.func8, Try.ntmps8
    go_wp2_with (first
      | (go_at_call 18; refine (works_any _).mono ?_; rintro e w1 ⟨rfl, hb1⟩; have HB1 := Lib.hid hb1; clear hb1)
      | (go_at_call 10; refine (hp _ (HR.out.below HB1.out)).mono ?_; rintro e w' ⟨rfl, rfl⟩)
      | (go_at_call 12; refine (ht _ (HR.out.below HB1.out)).mono ?_; rintro e w' ⟨rfl, rfl⟩))
    go_ret
    exact ⟨rfl, HB1.out⟩
  · have hn' : bs.length ≤ 16384 := by omega
    have hp := fun wx hx => Pack_ok wx v bs hx hn'
    have ht := fun wx hx => Text_ok wx v bs hx hn'
    have hrE : rowE (packL bs) bs.length = 0 := rowE_ok hn' (by rw [rowL_packL])
    have hu := fun wx vx hx => Unpack_ok wx vx (packL bs) bs.length hx (packL_lt bs) hrE
    rw [rowL_packL] at hu
    have hsz := text_size bs
    have hbt : ∀ wx : World, Calls Try.prog 19 #[.string (strOf (textL bs))] wx fun e w' => ∃ v', e = .returned (.tuple #[v', fault 0 0]) ∧ Below wx.heap.size wx w' ∧ w'.ownsRow wx.heap.size 4 1 v' bs.length (bls bs) := fun wx => by
      refine (Bits_any (strOf (textL bs)) wx none (text_good bs) (by rw [text_size]; exact hn')).mono ?_
      rintro e w' ⟨v', h1, h2, h3⟩
      rw [text_back, text_size] at h3
      exact ⟨v', h1, h2, h3⟩
    have hon := fun wx vx hx => Ones_any wx vx (packL bs) hx (packL_lt bs) (by rw [packL_len]; omega)
    rw [pops_packL] at hon
    have hsm := fun wx vx hx hy => SameBools_any wx vx v bs bs hx hy
    rw [decide_eq_true rfl] at hsm
    generalize strOf (textL bs) = s at ht hbt hsz
    generalize packL bs = ws at hp hu hon
    have hix1 := fun wx hx hl => Index_ok wx v bs hx hl
    have hix0 := fun wx hx hl => Index_bad wx v bs hx hl
    have hrw := fun wx hl => Row_ok (nb (bit bs) bs.length) bs.length wx hl (nb_lt _ _)
    rw [index_back] at hrw
    have hlx := nb_lt (bit bs) bs.length
    generalize nb (bit bs) bs.length = x at hix1 hrw
    obtain ⟨A, c, rfl, h1, h2, h3⟩ := h
    rw [List.length_map] at hp ht hix1 hix0 hsm ⊢
    rw [List.length_map] at HR
    have HC := Lib.hid h3
    have HIX1 := Lib.hid hix1
    have HIX0 := Lib.hid hix0
    have HRW := Lib.hid hrw
    clear h1 h2 h3 hlx hrE hn hix1 hix0 hrw
    go_enter Try.func8, Try.ntmps8
    go_wp2_with (first
      | (go_at_call 18; refine (works_any _).mono ?_; rintro e w1 ⟨rfl, hb1⟩; have HB1 := Lib.hid hb1; clear hb1)
      | (go_at_call 10; refine (hp _ (HR.out.below HB1.out)).mono ?_; rintro e w2 ⟨v2, rfl, hb2, ho2⟩; have HB2 := Lib.hid (bt HB1.out (Nat.le_refl _) hb2); have HO2 := Lib.hid ho2; clear hb2 ho2)
      | (go_at_call 12; refine (ht _ (HR.out.below HB2.out)).mono ?_; rintro e w3 ⟨rfl, hb3⟩; have HB3 := Lib.hid (bt HB2.out (Nat.le_refl _) hb3); have HO3 := Lib.hid (own_keep HO2.out hb3); clear hb3)
      | (go_at_call 23; refine (hu _ _ (own_row HO3.out)).mono ?_; rintro e w4 ⟨v4, rfl, hb4, ho4⟩; have HB4 := Lib.hid (bt HB3.out (Nat.le_refl _) hb4); have HO4 := Lib.hid (own_keep HO3.out hb4); have HA4 := Lib.hid ho4; clear hb4 ho4)
      | (go_at_call 19; refine (hbt _).mono ?_; rintro e w5 ⟨v5, rfl, hb5, ho5⟩; have HB5 := Lib.hid (bt HB4.out (Nat.le_refl _) hb5); have HO5 := Lib.hid (own_keep HO4.out hb5); have HA5 := Lib.hid (own_keep HA4.out hb5); have HC5 := Lib.hid ho5; clear hb5 ho5)
      | (go_at_call 17; with_reducible refine (hsm _ v4 (own_row (own_keep HA5.out ((Below.refl _ _).alloc (Nat.le_refl _) _))) (HR.out.below (HB5.out.alloc HB5.out.size _))).mono ?_; rintro e w6 ⟨rfl, hb6⟩; have HB6 := Lib.hid (bt HB5.out (Nat.le_refl _) (Below.box hb6)); have HO6 := Lib.hid (own_keep HO5.out (Below.box hb6)); have HC6 := Lib.hid (own_keep HC5.out (Below.box hb6)); clear hb6)
      | (go_at_call 17; with_reducible refine (hsm _ v5 (own_row HC6.out) (HR.out.below HB6.out)).mono ?_; rintro e w7 ⟨rfl, hb7⟩; have HB7 := Lib.hid (bt HB6.out (Nat.le_refl _) hb7); have HO7 := Lib.hid (own_keep HO6.out hb7); clear hb7))
    go_loop [11, 81] (fun q i => ∃ k y : Nat, k ≤ bs.length ∧ i = .int .i64 k ∧ q = .int .i64 y ∧ y = cnt (bs.take k)) (fun q i => bs.length - (intOf i).toNat)
    case atStart => exact ⟨0, 0, by omega, rfl, rfl, by simp [cnt]⟩
    case round =>
      obtain ⟨k, y, hk, rfl, rfl, hy⟩ := hrel
      have hyl : y ≤ k := by
        have := cnt_le (bs.take k)
        rw [List.length_take] at this; omega
      have HY := Lib.hid hy
      clear hy
      by_cases hlt : k < bs.length
      · obtain ⟨b, off, rfl, hb, hcell⟩ := (HC.out.below HB7.out).bit k hlt
        have hnx := cnt_next hlt
        rw [← HY.out] at hnx
        have HNX := Lib.hid hnx
        clear hnx
        cases hbit : bit bs k
        · rw [hbit] at hcell HNX
          go_wp2
          go_round
          case rel => exact ⟨k + 1, y, by omega, by go_num, by go_num, HNX.out.symm⟩
          case measure => simp [intOf]; omega
        · rw [hbit] at hcell HNX
          go_wp2
          go_round
          case rel => exact ⟨k + 1, y + 1, by omega, by go_num, by go_num, HNX.out.symm⟩
          case measure => simp [intOf]; omega
      · have : k = bs.length := by omega
        subst this
        have hye : cnt bs = y := by rw [HY.out, List.take_length]
        rw [hye] at hon
        clear hye
        by_cases h62 : bs.length ≤ 62
        · have hix1 := HIX1.out
          have q62 : decide (bs.length ≤ 62) = true := decide_eq_true h62
          have q62' : decide ((bs.length : Int) ≤ 62) = true := decide_eq_true (by omega)
          have hrw := HRW.out
          go_wp2_with (first
            | (go_at_call 14; refine (hix1 _ (HR.out.below HB7.out) h62).mono ?_; rintro e w' ⟨rfl, rfl⟩)
            | (go_at_call 27; refine (hon _ _ (own_row HO7.out)).mono ?_; rintro e w' ⟨rfl, rfl⟩)
            | (go_at_call 21; refine (hrw _ h62).mono ?_; rintro e w8 ⟨v8, rfl, hb8, ho8⟩; have HB8 := Lib.hid (bt HB7.out (Nat.le_refl _) hb8); have HO8 := Lib.hid ho8; clear hb8 ho8)
            | (go_at_call 17; refine (hsm _ v8 (own_row HO8.out) (HR.out.below HB8.out)).mono ?_; rintro e w9 ⟨rfl, hb9⟩; have HB9 := Lib.hid (bt HB8.out (Nat.le_refl _) hb9); clear hb9))
          go_ret
          exact ⟨rfl, HB9.out⟩
        · have hix0 := HIX0.out
          go_wp2_with (first
            | (go_at_call 14; refine (hix0 _ (HR.out.below HB7.out) (by omega)).mono ?_; rintro e w' ⟨rfl, rfl⟩)
            | (go_at_call 27; refine (hon _ _ (own_row HO7.out)).mono ?_; rintro e w' ⟨rfl, rfl⟩))
          go_ret
          exact ⟨rfl, HB7.out⟩
end Go.Proofs.Ythchemgkfjmhjaa
