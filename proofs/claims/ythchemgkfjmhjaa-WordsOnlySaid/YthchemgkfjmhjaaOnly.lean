/- WordsOnly's walk: what is got is put as just those bytes. -/
import Derived.Test.YthchemgkfjmhjaaWorks2
namespace Go.Proofs.Ythchemgkfjmhjaa
open Go.RowKit

theorem getO_inv {l : List UInt8} {v k : Nat} (h : getO l = some (v, k)) : v ≤ 2147483647 ∧ k = (groups v).length ∧ ∃ r, l = groups v ++ r := by
  unfold getO at h
  split at h
  · rename_i hex
    have h1 := hex.choose_spec
    injection h with h
    injection h with h2 h3
    rw [h2] at h1 h3
    exact ⟨h1.1, h3.symm, h1.2⟩
  · cases h
theorem extract_of {s : ByteArray} {a : Nat} {g r : List UInt8} (h : from_ s a = g ++ r) (hg : 0 < g.length) : a + g.length ≤ s.size ∧ s.extract a (a + g.length) = strOf g := by
  have hl : a + g.length ≤ s.size := by
    have := congrArg List.length h
    rw [from_len, List.length_append] at this; omega
  refine ⟨hl, ?_⟩
  apply ByteArray.ext
  apply Array.toList_inj.1
  have e : (s.extract a (a + g.length)).data.toList = (s.data.toList.drop a).take g.length := by
    simp [ByteArray.data_extract, List.drop_take]
  rw [e]
  show (from_ s a).take g.length = g
  rw [h]; simp

set_option maxHeartbeats 2000000 in
theorem only_walk (w : World) (s : ByteArray) (a : Int) (hs : s.size ≤ 9223372036854775807) (_ha : -9223372036854775808 ≤ a ∧ a ≤ 9223372036854775807) : Calls Try.prog 7 #[.string s, .int .i64 a] w fun e w' => e = .returned (.bool true) ∧ Below w.heap.size w w' := by
  have hget := fun wx => Get_any s a wx hs
  by_cases hE : placeE s a = 0
  · obtain ⟨h1, h2, h3⟩ := placeE_zero hE
    obtain ⟨k, rfl⟩ := Int.eq_ofNat_of_zero_le h2
    rw [Int.toNat_natCast] at hget
    cases ho : getO (from_ s k) with
    | none =>
      rw [ho, readV_none hE] at hget
      clear hE ho
      go_enter Try.func7, Try.ntmps7
      go_wp2_with (first
        | (go_at_call 18; refine (works_any _).mono ?_; rintro e w1 ⟨rfl, hb1⟩; have HB1 := Lib.hid hb1; clear hb1)
        | (go_at_call 33; refine (hget _).mono ?_; rintro e w2 ⟨rfl, hb2⟩; have HB2 := Lib.hid hb2; clear hb2))
      go_ret
      exact ⟨rfl, (bt HB1.out (Nat.le_refl _) HB2.out).alloc (Nat.le_trans HB1.out.size HB2.out.size) _⟩
    | some x =>
      obtain ⟨v, m⟩ := x
      rw [ho, readV_some hE] at hget
      obtain ⟨hv, hm, r, hr⟩ := getO_inv ho
      have hpos := (groups_len v).1
      obtain ⟨hle, hex⟩ := extract_of hr hpos
      rw [← hm] at hpos hle hex
      have hput := fun wx => Put_ok v wx hv
      rw [← hex] at hput
      have hsl := fun wx => run_slice_string (P := Try.prog) wx 9 s .i64 .i64 (k : Int) ((k : Int) + (m : Int)) Try.underlying9 (by omega) (by omega) (by omega)
      have e1 : ((k : Int)).toNat = k := by omega
      have e2 : ((k : Int) + (m : Int)).toNat = k + m := by omega
      rw [e1, e2] at hsl
      generalize s.extract k (k + m) = t at hput hsl
      clear hE ho e1 e2 hr hex hm
      go_enter Try.func7, Try.ntmps7
      go_wp2_with (first
        | (go_at_call 18; refine (works_any _).mono ?_; rintro e w1 ⟨rfl, hb1⟩; have HB1 := Lib.hid hb1; clear hb1)
        | (go_at_call 33; refine (hget _).mono ?_; rintro e w2 ⟨rfl, hb2⟩; have HB2 := Lib.hid hb2; clear hb2)
        | (go_at_call 34; refine (hput _).mono ?_; rintro e w3 ⟨rfl, hb3⟩; have HB3 := Lib.hid hb3; clear hb3))
      go_ret
      exact ⟨rfl, bt (bt HB1.out (Nat.le_refl _) HB2.out) (Nat.le_refl _) (Below.box HB3.out)⟩
  · rw [readV_bad hE] at hget
    have q : (placeE s a != 0) = true := by simpa using hE
    have q2 : (placeE s a == 0) = false := by simpa using hE
    generalize placeE s a = x at hget q q2
    clear hE
    go_enter Try.func7, Try.ntmps7
    go_wp2_with (first
      | (go_at_call 18; refine (works_any _).mono ?_; rintro e w1 ⟨rfl, hb1⟩; have HB1 := Lib.hid hb1; clear hb1)
      | (go_at_call 33; refine (hget _).mono ?_; rintro e w2 ⟨rfl, hb2⟩; have HB2 := Lib.hid hb2; clear hb2))
    go_ret
    exact ⟨rfl, (bt HB1.out (Nat.le_refl _) HB2.out).alloc (Nat.le_trans HB1.out.size HB2.out.size) _⟩
end Go.Proofs.Ythchemgkfjmhjaa
