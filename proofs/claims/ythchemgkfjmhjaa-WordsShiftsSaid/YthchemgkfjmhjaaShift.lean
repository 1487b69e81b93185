/- The program's Shift. -/
import Derived.Test.YthchemgkfjmhjaaCheck
import Derived.Test.YthchemgkfjmhjaaSame
import Derived.Deep.RegionWith
import Derived.Deep.Cut
import Derived.Deep.CutRange
import Derived.Laws.CopyOwn
namespace Go.Proofs.Ythchemgkfjmhjaa
open Go.RowKit

/-- The row that has the bit i where bs has the bit i - by. -/
def shiftL (bs : List Bool) (a : Int) : List Bool := mkb bs.length fun i => if 0 ≤ (i : Int) - a then bit bs ((i : Int) - a).toNat else false
theorem shiftL_len (bs : List Bool) (a : Int) : (shiftL bs a).length = bs.length := by simp [shiftL]
theorem shiftL_bit (ps : List Bool) (a : Int) (i : Nat) (hi : i < ps.length) : bit (shiftL ps a) i = if 0 ≤ (i : Int) - a then bit ps ((i : Int) - a).toNat else false := mkb_bit _ hi
theorem falses_get (n i : Nat) (h : i < n) : (bls (mkb n fun _ => false))[i]? = some (Value.bool false) := by simp [h]
theorem shiftL_right {bs : List Bool} {k n : Nat} (hn : bs.length = n) (hk : k < n) : splice (bls (mkb n fun _ => false)) k ((bls bs).take (n - k)) = bls (shiftL bs k) := by
  subst hn
  apply List.ext_getElem
  · rw [length_splice]
    · simp [shiftL]
    · simp; omega
  intro i h1 h2
  have hi : i < bs.length := by simpa [shiftL] using h2
  apply Option.some.inj
  rw [← List.getElem?_eq_getElem h1, ← List.getElem?_eq_getElem h2]
  unfold splice
  have e2 : (bls (shiftL bs k))[i]? = some (Value.bool (if k ≤ i then bit bs (i - k) else false)) := by
    have e3 : ((i : Int) - (k : Int)).toNat = i - k := by omega
    by_cases hki : k ≤ i
    · simp [shiftL, hi, hki]
    · simp [shiftL, hi, hki]
  rw [e2]
  by_cases hki : k ≤ i
  · rw [List.getElem?_append_right (by simp; omega)]
    have e4 : ((bls (mkb bs.length fun _ => false)).take k).length = k := by simp; omega
    rw [e4, List.getElem?_append_left (by simp; omega), List.getElem?_take, if_pos (by omega)]
    simp [hki, bit, List.getD, show i - k < bs.length by omega]
  · rw [List.getElem?_append_left (by simp; omega), List.getElem?_take, if_pos (by omega)]
    simp [hki, hi]
theorem shiftL_left {bs : List Bool} {k n : Nat} (hn : bs.length = n) (hk : k < n) : splice (bls (mkb n fun _ => false)) 0 ((bls bs).drop k) = bls (shiftL bs (-(k : Int))) := by
  subst hn
  apply List.ext_getElem
  · rw [length_splice]
    · simp [shiftL]
    · simp
  intro i h1 h2
  have hi : i < bs.length := by simpa [shiftL] using h2
  apply Option.some.inj
  rw [← List.getElem?_eq_getElem h1, ← List.getElem?_eq_getElem h2]
  unfold splice
  have e2 : (bls (shiftL bs (-(k : Int))))[i]? = some (Value.bool (bit bs (i + k))) := by
    have e3 : ((i : Int) - -(k : Int)).toNat = i + k := by omega
    have e3' : ((i : Int) + (k : Int)).toNat = i + k := by omega
    simp [shiftL, hi, show (0 : Int) ≤ (i : Int) + (k : Int) by omega, e3']
  rw [e2, List.take_zero, List.nil_append]
  have e4 : ((bls bs).drop k).length = bs.length - k := by simp
  by_cases hki : i < bs.length - k
  · rw [List.getElem?_append_left (by rw [e4]; exact hki), List.getElem?_drop]
    simp [bit, List.getD, show k + i < bs.length by omega, Nat.add_comm]
  · rw [List.getElem?_append_right (by rw [e4]; omega), e4, List.getElem?_drop]
    have e5 : bit bs (i + k) = false := by
      unfold bit
      rw [List.getD, List.getElem?_eq_none (by omega)]; rfl
    rw [e5, falses_get _ _ (by omega)]
theorem shiftL_far {bs : List Bool} {a : Int} {n : Nat} (hn : bs.length = n) (h : a ≤ -(n : Int) ∨ (n : Int) ≤ a) : mkb n (fun _ => false) = shiftL bs a := by
  subst hn
  refine mkb_congr fun i hi => ?_
  by_cases h0 : 0 ≤ (i : Int) - a
  · rw [if_pos h0]
    unfold bit
    rw [List.getD, List.getElem?_eq_none (by omega)]; rfl
  · rw [if_neg h0]

theorem Shift_bad (w : World) (v : Value) (ws : List Nat) (n a : Int) (h : Row w v (wds ws)) (hw : ∀ x ∈ ws, x < 2 ^ 64) (hE : rowE ws n ≠ 0) :
    Calls Try.prog 25 #[v, .int .i64 n, .int .i64 a] w fun e w' => e = .returned (.tuple #[.slice none 0 0, .int .i64 (rowE ws n)]) ∧ w = w' := by
  have hc := fun wx hx => check_any wx v ws n hx hw
  have q : (rowE ws n != 0) = true := by simpa using hE
  generalize rowE ws n = r at hc q ⊢
  clear hw hE
  have H := Lib.hid h
  clear h
  go_enter Try.func25, Try.ntmps25
  go_wp2_with (go_at_call 44; refine (hc _ H.out).mono ?_; rintro e w' ⟨rfl, rfl⟩)
  go_ret2
  exact ⟨rfl, rfl⟩

theorem bool_size : (Try.prog.info? 4).map (·.size) = some 1 := by kernel_rfl
theorem own_full {w : World} {B g n : Nat} {t : TypeId} {xs : List Value} (h : w.ownsRow B t 1 (.slice (some ⟨g, 0, none⟩) n n) n xs) : w.heap[g]? = some (.cells xs.toArray t (0, 0)) ∧ B ≤ g := by
  rcases h.2 with ⟨h2, _⟩ | ⟨g', cap, cur, hv, hB, hg, h1, h2, h3, h4⟩
  · cases h2
  · cases hv
    refine ⟨?_, hB⟩
    have : cur.toList = xs := by
      rw [← h4, List.take_of_length_le]
      rw [Array.length_toList]; omega
    rw [hg, ← this]
theorem heap_own {w : World} {B g n : Nat} {t : TypeId} {xs : List Value} {bs : List Bool} (h : w.heap[g]? = some (.cells xs.toArray t (0, 0))) (hB : B ≤ g) (hx : xs = bls bs) (hn : bs.length = n) (hm : n ≤ maxLen) : w.ownsRow B t 1 (.slice (some ⟨g, 0, none⟩) n n) n (bls bs) := by
  subst hx hn
  exact ⟨by simp, .inr ⟨g, _, _, rfl, hB, h, Nat.le_refl _, hm, by simp, by simp [List.take_of_length_le]⟩⟩
theorem cells_src {w : World} {A : Option Addr} {xs : List Value} (h : Cells w A xs) (hp : 0 < xs.length) : ∃ ad, A = some ad ∧ ∀ j v, xs[j]? = some v → w.cell? (ad.add j) = some v := by
  obtain ⟨b, off, rfl, _, _⟩ := h 0 hp
  refine ⟨_, rfl, fun j v hj => ?_⟩
  obtain ⟨b', off', e, _, hc⟩ := h j (List.getElem?_eq_some_iff.1 hj).1
  cases e
  rw [add_none, hc, hj]
theorem cells_take {w : World} {A : Option Addr} {xs : List Value} (h : Cells w A xs) (m : Nat) (hp : 0 < (xs.take m).length) : ∃ ad, A = some ad ∧ ∀ j v, (xs.take m)[j]? = some v → w.cell? (ad.add j) = some v := by
  rw [List.length_take] at hp
  obtain ⟨ad, h1, h2⟩ := cells_src h (by omega)
  refine ⟨ad, h1, fun j v hj => h2 j v ?_⟩
  rw [List.getElem?_take] at hj
  split at hj
  · exact hj
  · cases hj

theorem cells_drop {w : World} {b off : Nat} {xs : List Value} (h : Cells w (some ⟨b, off, none⟩) xs) (k : Nat) (_hp : 0 < (xs.drop k).length) : ∃ ad, (some ⟨b, off + k, none⟩ : Option Addr) = some ad ∧ ∀ j v, (xs.drop k)[j]? = some v → w.cell? (ad.add j) = some v := by
  refine ⟨_, rfl, fun j v hj => ?_⟩
  rw [List.getElem?_drop] at hj
  obtain ⟨b', off', e, _, hc⟩ := h (k + j) (List.getElem?_eq_some_iff.1 hj).1
  cases e
  rw [add_none, Nat.add_assoc, hc, hj]

theorem slice_tail (b off n c l : Nat) (lo : Int) (hl : l < n) (hc : n ≤ c) (el : lo = (l : Int)) (wx : World) :
    (Instr.slice 22 (.slice (some ⟨b, off, none⟩) n c) (some (.int .i64 lo)) none none).run Try.prog wx = .ok (.slice (some ⟨b, off + l, none⟩) (n - l) (c - l)) wx := by
  subst el
  have hs : (sizeOf (Try.prog.elem 22)).run Try.prog wx = .ok 1 wx := by simp [go_sem]
  rw [run_slice_l wx 22 (some ⟨b, off, none⟩) n c Try.underlying22 .i64 l (by omega) (by omega), hs]
  show Result.ok (sliced _ (l : Int).toNat n c 1) wx = _
  rw [Int.toNat_natCast]
  simp [sliced, show ¬ c = l by omega, add_none]

set_option maxHeartbeats 4000000 in
set_option maxRecDepth 100000 in
theorem Shift_ok (w : World) (v : Value) (ws : List Nat) (n : Nat) (a : Int) (h : Row w v (wds ws)) (hw : ∀ x ∈ ws, x < 2 ^ 64) (hE : rowE ws n = 0) (ha : -9223372036854775808 ≤ a ∧ a ≤ 9223372036854775807) :
    Calls Try.prog 25 #[v, .int .i64 n, .int .i64 a] w fun e w' => ∃ v', e = .returned (.tuple #[v', .int .i64 0]) ∧ Below w.heap.size w w' ∧ w'.ownsRow w.heap.size 32 1 v' (packL (shiftL (rowL ws n) a)).length (wds (packL (shiftL (rowL ws n) a))) := by
  obtain ⟨m, hm, hm2, hm3⟩ := rowE_zero hE
  have : n = m := by omega
  subst this
  have hc := fun wx hx => check_any wx v ws n hx hw
  have hu := fun wx hx => unpack_any wx v ws n hx ((isRow_iff hw).1 hm3).1 hm2 hw
  rw [hE] at hc
  have hl := rowL_len ws n
  generalize rowL ws n = bs at hu hl ⊢
  have hmk := fun wx => make_bools n (by omega) wx
  have hmd := fun wx => made_bools wx n (by unfold maxLen; omega)
  have H := Lib.hid h
  have HMD := Lib.hid hmd
  have hshl : (shiftL bs a).length = n := by rw [shiftL_len, hl]
  generalize hsh : shiftL bs a = sh at hshl ⊢
  have hpk := fun wx vx hx => pack_any wx vx sh hx (by rw [hshl]; exact hm2)
  have HL := Lib.hid hl
  have HSH := Lib.hid hsh
  have HSL := Lib.hid hshl
  clear hw hE h hm3 hmd hl hsh hshl
  go_enter Try.func25, Try.ntmps25
  go_upto_region 4 with (go_at_call 44; refine (hc _ H.out).mono ?_; rintro e w' ⟨rfl, rfl⟩)
  go_cut [9, 10] from 17 to 21 (fun x y wx => ∃ g, y = .slice (some ⟨g, 0, none⟩) n n ∧ Row wx x (bls bs) ∧ Below w.heap.size w wx ∧ wx.ownsRow w.heap.size 4 1 (.slice (some ⟨g, 0, none⟩) n n) n (bls (mkb n fun _ => false)))
  case first =>
    go_region_with (first
      | (go_at_call 45; with_reducible refine (hu w.drew (H.out.below (Below.refl _ _).drew)).mono ?_; rintro e w1 ⟨v1, rfl, hb1, ho1⟩; have HB1 := Lib.hid hb1; have HO1 := Lib.hid ho1; clear hb1 ho1)
      | (go_at_call 45; with_reducible refine (hu (w.alloc (.cells (madeCells #[Value.bool false] n) 4)).drew (H.out.below ((Below.refl _ _).alloc (Nat.le_refl _) _).drew)).mono ?_; rintro e w1 ⟨v1, rfl, hb1, ho1⟩; have HB1 := Lib.hid hb1; have HO1 := Lib.hid ho1; clear hb1 ho1))
    all_goals (go_wp2_with fail; go_meet)
    case rel => exact ⟨_, rfl, own_row (own_keep HO1.out ((Below.refl _ _).alloc (Nat.le_refl _) _)), ((Below.refl _ _).drew.trans HB1.out).alloc HB1.out.size _, own_mono (HMD.out w1) HB1.out.size⟩
    case rel =>
      have hb : Below w.heap.size w w1 := ((Below.refl w.heap.size w).alloc (Nat.le_refl _) (.cells (madeCells #[Value.bool false] n) 4)).drew.trans (HB1.out.mono (show w.heap.size ≤ (w.alloc (.cells (madeCells #[Value.bool false] n) 4)).heap.size by simp))
      exact ⟨_, rfl, own_row HO1.out, hb, own_keep (w := (w.alloc (.cells (madeCells #[Value.bool false] n) 4)).drew) (HMD.out w) HB1.out⟩
  case rest =>
    obtain ⟨g, rfl, hrow, hbw, how⟩ := hcut
    obtain ⟨A, c, rfl, hlc0, hlc, hcs⟩ := hrow
    rw [List.length_map, HL.out]
    obtain ⟨hg, hBg⟩ := own_full how
    have HG := Lib.hid hg
    have HBW := Lib.hid hbw
    have HCS := Lib.hid hcs
    have HOW := Lib.hid how
    clear hg hbw hcs how
    by_cases h1 : 0 ≤ a ∧ a < n
    · obtain ⟨k, rfl⟩ := Int.eq_ofNat_of_zero_le h1.1
      have hk : k < n := by omega
      have hsp := shiftL_right HL.out hk
      have hsl := fun wx => slice_tail g 0 n n k (k : Int) hk (Nat.le_refl _) rfl wx
      rw [Nat.zero_add] at hsl
      rw [HSH.out] at hsp
      have HSP := Lib.hid hsp
      clear hsp h1
      have k0 : ((bls bs).take (n - k)).length = n - k := by rw [List.length_take, List.length_map, HL.out]; omega
      have k1 : ((bls bs).take (n - k)).length = Nat.min n (n - k) := by rw [k0]; exact (Nat.min_eq_right (by omega)).symm
      have k2 : 0 < ((bls bs).take (n - k)).length → (some ⟨g, k, none⟩ : Option Addr) = some ⟨g, k, none⟩ ∧ ∃ ad, A = some ad ∧ ∀ j v, ((bls bs).take (n - k))[j]? = some v → wc.cell? (ad.add j) = some v := fun hp => ⟨rfl, cells_take HCS.out _ hp⟩
      have k3 : k + ((bls bs).take (n - k)).length ≤ (bls (mkb n fun _ => false)).length := by rw [k0, List.length_map, mkb_len]; omega
      have k4 : ∀ u ∈ (bls bs).take (n - k), u.oneCell' = true := fun u hu => bls_one bs u (List.mem_of_mem_take hu)
      have K1 := Lib.hid k1
      have K2 := Lib.hid k2
      have K3 := Lib.hid k3
      have K4 := Lib.hid k4
      clear k0 k1 k2 k3 k4
      go_wp2_with (first
        | (refine wpList_copy_splice (o := ⟨some 33, _, _, _, _, _⟩) rfl (.tmp 31) (.tmp 32) 22 22 rfl 4 Try.underlying22 bool_size (some ⟨g, k, none⟩) A (n - k) (n - k) n c rfl rfl g k (bls (mkb n fun _ => false)) 4 HG.out ((bls bs).take (n - k)) K1.out K2.out K3.out K4.out w.heap.size w HBW.out hBg ?_; intro w2 HG2 hB2; have HB2 := Lib.hid hB2; clear hB2)
        | (go_at_call 35; refine (hpk w2 _ (own_row (heap_own (B := w.heap.size) HG2.out hBg HSP.out HSL.out (by unfold maxLen; omega)))).mono ?_; rintro e w3 ⟨v3, rfl, hb3, ho3⟩))
      go_ret2
      exact ⟨_, rfl, bt HB2.out (Nat.le_refl _) hb3, own_mono ho3 HB2.out.size⟩
    · by_cases h2 : -(n : Int) < a ∧ a < 0
      · obtain ⟨k, rfl⟩ : ∃ k : Nat, a = -(k : Int) := ⟨(-a).toNat, by omega⟩
        have hk : k < n := by omega
        have hsp := shiftL_left HL.out hk
        obtain ⟨b, off, rfl, _, _⟩ := HCS.out 0 (by rw [List.length_map, HL.out]; omega)
        have hsl := fun wx => slice_tail b off n c k (k : Int) hk (by simpa [HL.out] using hlc0) rfl wx
        rw [HSH.out] at hsp
        have HSP := Lib.hid hsp
        have q1 : decide ((0 : Int) ≤ -(k : Int)) = false := decide_eq_false (by omega)
        clear hsp h1
        have k0 : ((bls bs).drop k).length = n - k := by rw [List.length_drop, List.length_map, HL.out]
        have k1 : ((bls bs).drop k).length = Nat.min (n - k) n := by rw [k0]; exact (Nat.min_eq_left (by omega)).symm
        have k2 : 0 < ((bls bs).drop k).length → (some ⟨g, 0, none⟩ : Option Addr) = some ⟨g, 0, none⟩ ∧ ∃ ad, (some ⟨b, off + k, none⟩ : Option Addr) = some ad ∧ ∀ j v, ((bls bs).drop k)[j]? = some v → wc.cell? (ad.add j) = some v := fun hp => ⟨rfl, cells_drop HCS.out _ hp⟩
        have k3 : 0 + ((bls bs).drop k).length ≤ (bls (mkb n fun _ => false)).length := by rw [k0, List.length_map, mkb_len]; omega
        have k4 : ∀ u ∈ (bls bs).drop k, u.oneCell' = true := fun u hu => bls_one bs u (List.mem_of_mem_drop hu)
        have K1 := Lib.hid k1
        have K2 := Lib.hid k2
        have K3 := Lib.hid k3
        have K4 := Lib.hid k4
        clear k0 k1 k2 k3 k4
        go_wp2_with (first
          | (refine wpList_copy_splice (o := ⟨some 47, _, _, _, _, _⟩) rfl (.tmp 42) (.tmp 46) 22 22 rfl 4 Try.underlying22 bool_size (some ⟨g, 0, none⟩) (some ⟨b, off + k, none⟩) n n (n - k) (c - k) rfl rfl g 0 (bls (mkb n fun _ => false)) 4 HG.out ((bls bs).drop k) K1.out K2.out K3.out K4.out w.heap.size w HBW.out hBg ?_; intro w2 HG2 hB2; have HB2 := Lib.hid hB2; clear hB2)
          | (go_at_call 35; refine (hpk w2 _ (own_row (heap_own (B := w.heap.size) HG2.out hBg HSP.out HSL.out (by unfold maxLen; omega)))).mono ?_; rintro e w3 ⟨v3, rfl, hb3, ho3⟩))
        go_ret2
        exact ⟨_, rfl, bt HB2.out (Nat.le_refl _) hb3, own_mono ho3 HB2.out.size⟩
      · have hfar := shiftL_far (a := a) HL.out (by omega)
        rw [HSH.out] at hfar
        have how := HOW.out
        rw [hfar] at how
        have HOW2 := Lib.hid how
        clear hfar how
        by_cases h3 : 0 ≤ a
        · have q1 : decide ((a : Int) < (n : Int)) = false := decide_eq_false (by omega)
          have q2 : decide ((a : Int) < 0) = false := decide_eq_false (by omega)
          clear h1 h2
          by_cases h4 : -(n : Int) < a
          · have q3 : decide (-(n : Int) < a) = true := decide_eq_true h4
            go_wp2_with (go_at_call 35; refine (hpk wc _ (own_row HOW2.out)).mono ?_; rintro e w3 ⟨v3, rfl, hb3, ho3⟩)
            go_ret2
            exact ⟨_, rfl, bt HBW.out (Nat.le_refl _) hb3, own_mono ho3 HBW.out.size⟩
          · have q3 : decide (-(n : Int) < a) = false := decide_eq_false h4
            go_wp2_with (go_at_call 35; refine (hpk wc _ (own_row HOW2.out)).mono ?_; rintro e w3 ⟨v3, rfl, hb3, ho3⟩)
            go_ret2
            exact ⟨_, rfl, bt HBW.out (Nat.le_refl _) hb3, own_mono ho3 HBW.out.size⟩
        · have q1 : decide ((0 : Int) ≤ a) = false := decide_eq_false (by omega)
          have q2 : decide (-(n : Int) < a) = false := decide_eq_false (by omega)
          clear h1 h2
          go_wp2_with (go_at_call 35; refine (hpk wc _ (own_row HOW2.out)).mono ?_; rintro e w3 ⟨v3, rfl, hb3, ho3⟩)
          go_ret2
          exact ⟨_, rfl, bt HBW.out (Nat.le_refl _) hb3, own_mono ho3 HBW.out.size⟩
end Go.Proofs.Ythchemgkfjmhjaa
