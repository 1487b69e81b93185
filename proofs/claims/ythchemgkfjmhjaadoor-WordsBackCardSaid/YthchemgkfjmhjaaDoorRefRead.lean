/- The document's Number and Get, with the faults that they tell. -/
import Derived.Test.YthchemgkfjmhjaaDoorRefNum
import Derived.Test.YthchemgkfjmhjaaDoorWrong
namespace Go.Proofs.YthchemgkfjmhjaaDoor
open Go.RowKit
theorem place_any (s : ByteArray) (a : Int) (w : World) (hs : s.size ≤ 9223372036854775807) : Calls Tryd.prog 21 #[.string s, .int .i64 a] w fun e w' => e = .returned (fault 0 (placeE s a)) ∧ Below w.heap.size w w' := by
  by_cases h : 262144 < s.size
  · rw [placeE_long h]
    have hw := wrong_any 0 2
    go_enter Tryd.func21, Tryd.ntmps21
    go_wp2_with (go_at_call 23; refine (hw _).mono ?_; rintro e w1 ⟨rfl, hb1⟩; obtain ⟨hc0, hf0, hz1⟩ := keep_box hb1 0; obtain ⟨hc1, hf1, _⟩ := keep_box hb1 1; have HB1 := Lib.hid hb1; clear hb1; simp at hc0 hc1)
    refine bodyPost_ret (v := fault 0 2) (by simp [results, Tryd.results21, go_sem, hc0, hc1, hz1]) rfl ⟨rfl, ?_⟩
    exact ((Below.box HB1.out).setCell (Nat.le_refl _) _).setCell (Nat.le_refl _) _
  · by_cases h2 : a < 0
    · rw [placeE_out h (.inl h2)]
      have hw := wrong_any 0 1
      go_enter Tryd.func21, Tryd.ntmps21
      go_wp2_with (go_at_call 23; refine (hw _).mono ?_; rintro e w1 ⟨rfl, hb1⟩; obtain ⟨hc0, hf0, hz1⟩ := keep_box hb1 0; obtain ⟨hc1, hf1, _⟩ := keep_box hb1 1; have HB1 := Lib.hid hb1; clear hb1; simp at hc0 hc1)
      refine bodyPost_ret (v := fault 0 1) (by simp [results, Tryd.results21, go_sem, hc0, hc1, hz1]) rfl ⟨rfl, ?_⟩
      exact ((Below.box HB1.out).setCell (Nat.le_refl _) _).setCell (Nat.le_refl _) _
    · by_cases h3 : (s.size : Int) < a
      · rw [placeE_out h (.inr h3)]
        have hw := wrong_any 0 1
        go_enter Tryd.func21, Tryd.ntmps21
        go_wp2_with (go_at_call 23; refine (hw _).mono ?_; rintro e w1 ⟨rfl, hb1⟩; obtain ⟨hc0, hf0, hz1⟩ := keep_box hb1 0; obtain ⟨hc1, hf1, _⟩ := keep_box hb1 1; have HB1 := Lib.hid hb1; clear hb1; simp at hc0 hc1)
        refine bodyPost_ret (v := fault 0 1) (by simp [results, Tryd.results21, go_sem, hc0, hc1, hz1]) rfl ⟨rfl, ?_⟩
        exact ((Below.box HB1.out).setCell (Nat.le_refl _) _).setCell (Nat.le_refl _) _
      · rw [placeE_ok h (by omega)]
        go_enter Tryd.func21, Tryd.ntmps21
        go_wp2
        refine bodyPost_ret (v := fault 0 0) (by simp [results, Tryd.results21, go_sem]) rfl ⟨rfl, ?_⟩
        exact (Below.refl _ _).alloc (Nat.le_refl _) _

set_option maxHeartbeats 2000000 in
theorem RNumber_any (s : ByteArray) (a : Int) (w : World) (hs : s.size ≤ 9223372036854775807) :
    Calls Tryd.prog 13 #[.string s, .int .i64 a] w fun e w' => e = .returned (readV s a (numO (from_ s a.toNat))) ∧ Below w.heap.size w w' := by
  have hp := fun w => place_any s a w hs
  by_cases hE : placeE s a = 0
  · obtain ⟨h1, h2, h3⟩ := placeE_zero hE
    obtain ⟨k, rfl⟩ := Int.eq_ofNat_of_zero_le h2
    rw [Int.toNat_natCast]
    have hn := fun w => Number0_any s k w h1 (by omega)
    generalize numO (from_ s k) = o at hn ⊢
    have HE := Lib.hid hE
    simp only [hE] at hp
    clear hE
    cases o with
    | none =>
      go_enter Tryd.func13, Tryd.ntmps13
      go_wp2_with (first
        | (go_at_call 21; refine (hp _).mono ?_; rintro e w1 ⟨rfl, hb1⟩; obtain ⟨hc0, hf0, hz1⟩ := keep_box hb1 0; obtain ⟨hc1, hf1, _⟩ := keep_box hb1 1; have HB1 := Lib.hid hb1; clear hb1; simp at hc0 hc1)
        | (go_at_call 25; refine (hn _).mono ?_; rintro e w' ⟨he, rfl⟩; obtain rfl := he)
        | (go_at_call 23; refine (wrong_any k 20 _).mono ?_; rintro e w2 ⟨rfl, hb2⟩; obtain ⟨hc20, hf20⟩ := keep_old hb2 hz1 hc0 hf0; obtain ⟨hc21, hf21⟩ := keep_old hb2 hz1 hc1 hf1; have hz2 : w.heap.size < w2.heap.size := (by have := hb2.size; simp at this; omega); have HB2 := Lib.hid hb2; clear hb2))
      refine bodyPost_ret (v := .tuple #[.int .i64 0, .int .i64 0, fault k 20]) (by simp [results, Tryd.results13, go_sem, hc20, hc21, hz2]) rfl ⟨by rw [readV_none HE.out], ?_⟩
      exact ((bt (Below.box HB1.out) (Nat.le_refl _) (Below.box HB2.out)).setCell (Nat.le_refl _) _).setCell (Nat.le_refl _) _
    | some x =>
      obtain ⟨v, j⟩ := x
      go_enter Tryd.func13, Tryd.ntmps13
      go_wp2_with (first
        | (go_at_call 21; refine (hp _).mono ?_; rintro e w1 ⟨rfl, hb1⟩; obtain ⟨hc0, hf0, hz1⟩ := keep_box hb1 0; obtain ⟨hc1, hf1, _⟩ := keep_box hb1 1; have HB1 := Lib.hid hb1; clear hb1; simp at hc0 hc1)
        | (go_at_call 25; refine (hn _).mono ?_; rintro e w' ⟨he, rfl⟩; obtain rfl := he))
      refine bodyPost_ret (v := .tuple #[.int .i64 (v : Int), .int .i64 ((k + j : Nat) : Int), fault 0 0]) (by simp [results, Tryd.results13, go_sem, hc0, hc1, hz1, Nat.ne_of_lt hz1]) rfl ⟨by rw [readV_some HE.out]; rfl, ?_⟩
      exact (((Below.box HB1.out).setCell (Nat.le_refl _) _).setCell (Nat.le_refl _) _).alloc (Nat.le_trans (Nat.le_of_lt hz1) (by simp [World.setCell])) _
  · have HE := Lib.hid hE
    have q1 : (placeE s a != 0) = true := by simpa using hE
    have q2 : (placeE s a == 0) = false := by simpa using hE
    generalize hx : placeE s a = x at hp q1 q2
    have HX := Lib.hid hx
    clear hE hx
    go_enter Tryd.func13, Tryd.ntmps13
    go_wp2_with (first
      | (go_at_call 21; refine (hp _).mono ?_; rintro e w1 ⟨rfl, hb1⟩; obtain ⟨hc0, hf0, hz1⟩ := keep_box hb1 0; obtain ⟨hc1, hf1, _⟩ := keep_box hb1 1; have HB1 := Lib.hid hb1; clear hb1; simp at hc0 hc1))
    go_region
    go_wp2
    refine bodyPost_ret (v := .tuple #[.int .i64 0, .int .i64 0, fault 0 x]) (by simp [results, Tryd.results13, go_sem, hc0, hc1, hz1, Nat.ne_of_lt hz1]) rfl ⟨by rw [readV_bad HE.out, HX.out], ?_⟩
    exact ((((Below.box HB1.out).setCell (Nat.le_refl _) _).setCell (Nat.le_refl _) _).alloc (Nat.le_trans (Nat.le_of_lt hz1) (by simp [World.setCell])) _).drew
end Go.Proofs.YthchemgkfjmhjaaDoor
