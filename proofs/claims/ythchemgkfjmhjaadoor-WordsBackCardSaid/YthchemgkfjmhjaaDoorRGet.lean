/- The document's Get with the faults that it tells. -/
import Derived.Test.YthchemgkfjmhjaaDoorRefGet
namespace Go.Proofs.YthchemgkfjmhjaaDoor
open Go.RowKit

set_option maxHeartbeats 2000000 in
theorem RGet_any (s : ByteArray) (a : Int) (w : World) (hs : s.size ≤ 9223372036854775807) :
    Calls Tryd.prog 11 #[.string s, .int .i64 a] w fun e w' => e = .returned (readV s a (getO (from_ s a.toNat))) ∧ Below w.heap.size w w' := by
  have hp := fun w => place_any s a w hs
  by_cases hE : placeE s a = 0
  · obtain ⟨h1, h2, h3⟩ := placeE_zero hE
    obtain ⟨k, rfl⟩ := Int.eq_ofNat_of_zero_le h2
    rw [Int.toNat_natCast]
    have hn := fun w => Get0_any s k w h1 (by omega)
    generalize getO (from_ s k) = o at hn ⊢
    have HE := Lib.hid hE
    simp only [hE] at hp
    clear hE
    cases o with
    | none =>
      go_enter Tryd.func11, Tryd.ntmps11
      go_wp2_with (first
        | (go_at_call 21; refine (hp _).mono ?_; rintro e w1 ⟨rfl, hb1⟩; obtain ⟨hc0, hf0, hz1⟩ := keep_box hb1 0; obtain ⟨hc1, hf1, _⟩ := keep_box hb1 1; have HB1 := Lib.hid hb1; clear hb1; simp at hc0 hc1)
        | (go_at_call 22; refine (hn _).mono ?_; rintro e w3 ⟨⟨v, j, ok, rfl, hor⟩, hb3⟩; obtain ⟨rfl, _⟩ : ok = false ∧ True := (by rcases hor with ⟨_, _, h, _⟩ | ⟨h, _⟩; cases h; exact ⟨h, trivial⟩); obtain ⟨hc30, hf30⟩ := keep_old hb3 hz1 hc0 hf0; obtain ⟨hc31, hf31⟩ := keep_old hb3 hz1 hc1 hf1; have hz3 : w.heap.size < w3.heap.size := Nat.lt_of_lt_of_le hz1 (Nat.le_trans (by simp) hb3.size); have HB3 := Lib.hid hb3; clear hb3 hor)
        | (go_at_call 23; refine (wrong_any k 20 _).mono ?_; rintro e w2 ⟨rfl, hb2⟩; have hc20 := (hb2.cell (p := ⟨w.heap.size, 0, none⟩) hz3).trans hc30; have hc21 := (hb2.cell (p := ⟨w.heap.size, 1, none⟩) hz3).trans hc31; have hf20 := (hb2.frozen (p := ⟨w.heap.size, 0, none⟩) hz3).trans hf30; have hf21 := (hb2.frozen (p := ⟨w.heap.size, 1, none⟩) hz3).trans hf31; have hz2 : w.heap.size < w2.heap.size := Nat.lt_of_lt_of_le hz3 hb2.size; have HB2 := Lib.hid hb2; clear hb2))
      refine bodyPost_ret (v := .tuple #[.int .i64 0, .int .i64 0, fault k 20]) (by simp [results, Tryd.results11, go_sem, hc20, hc21, hz2]) rfl ⟨by rw [readV_none HE.out], ?_⟩
      exact ((bt (bt (Below.box HB1.out) (Nat.le_refl _) (Below.box HB3.out)) (Nat.le_refl _) HB2.out).setCell (Nat.le_refl _) _).setCell (Nat.le_refl _) _
    | some x =>
      obtain ⟨v, j⟩ := x
      go_enter Tryd.func11, Tryd.ntmps11
      go_wp2_with (first
        | (go_at_call 21; refine (hp _).mono ?_; rintro e w1 ⟨rfl, hb1⟩; obtain ⟨hc0, hf0, hz1⟩ := keep_box hb1 0; obtain ⟨hc1, hf1, _⟩ := keep_box hb1 1; have HB1 := Lib.hid hb1; clear hb1; simp at hc0 hc1)
        | (go_at_call 22; refine (hn _).mono ?_; rintro e w3 ⟨⟨v', j', ok, rfl, hor⟩, hb3⟩; obtain ⟨rfl, hve, hje⟩ : ok = true ∧ v = v' ∧ k + j = j' := (by rcases hor with ⟨h, k2, h2, h3⟩ | ⟨_, h⟩; cases h2; exact ⟨h, rfl, h3.symm⟩; cases h); subst hve; subst hje; obtain ⟨hc30, hf30⟩ := keep_old hb3 hz1 hc0 hf0; obtain ⟨hc31, hf31⟩ := keep_old hb3 hz1 hc1 hf1; have hz3 : w.heap.size < w3.heap.size := Nat.lt_of_lt_of_le hz1 (Nat.le_trans (by simp) hb3.size); have HB3 := Lib.hid hb3; clear hb3 hor))
      refine bodyPost_ret (v := .tuple #[.int .i64 (v : Int), .int .i64 ((k + j : Nat) : Int), fault 0 0]) (by simp [results, Tryd.results11, go_sem, hc30, hc31, hz3, Nat.ne_of_lt hz3]) rfl ⟨by rw [readV_some HE.out]; rfl, ?_⟩
      first | exact ((bt (Below.box HB1.out) (Nat.le_refl _) (Below.box HB3.out)).setCell (Nat.le_refl _) _).setCell (Nat.le_refl _) _ | exact (((bt (Below.box HB1.out) (Nat.le_refl _) (Below.box HB3.out)).setCell (Nat.le_refl _) _).setCell (Nat.le_refl _) _).alloc (Nat.le_trans (Nat.le_of_lt hz3) (by simp [World.setCell])) _
  · have HE := Lib.hid hE
    have q1 : (placeE s a != 0) = true := by simpa using hE
    have q2 : (placeE s a == 0) = false := by simpa using hE
    generalize hx : placeE s a = x at hp q1 q2
    have HX := Lib.hid hx
    clear hE hx
    go_enter Tryd.func11, Tryd.ntmps11
    go_wp2_with (first
      | (go_at_call 21; refine (hp _).mono ?_; rintro e w1 ⟨rfl, hb1⟩; obtain ⟨hc0, hf0, hz1⟩ := keep_box hb1 0; obtain ⟨hc1, hf1, _⟩ := keep_box hb1 1; have HB1 := Lib.hid hb1; clear hb1; simp at hc0 hc1))
    go_region
    go_wp2
    refine bodyPost_ret (v := .tuple #[.int .i64 0, .int .i64 0, fault 0 x]) (by simp [results, Tryd.results11, go_sem, hc0, hc1, hz1, Nat.ne_of_lt hz1]) rfl ⟨by rw [readV_bad HE.out, HX.out], ?_⟩
    exact ((((Below.box HB1.out).setCell (Nat.le_refl _) _).setCell (Nat.le_refl _) _).alloc (Nat.le_trans (Nat.le_of_lt hz1) (by simp [World.setCell])) _).drew
end Go.Proofs.YthchemgkfjmhjaaDoor
