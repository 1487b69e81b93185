/- The program's Get and Number: the number that begins at a place of a text, and the faults that they tell. -/
import Derived.Test.YthchemgkfjmhjaaGetP
namespace Go.Proofs.Ythchemgkfjmhjaa
open Go.RowKit

set_option maxHeartbeats 2000000 in
/-- What the reader reads at the place is what read answers, once text and place are right. -/
theorem read_groupsAt (s : ByteArray) (a : Int) (w : World) (hs : s.size ≤ 9223372036854775807) :
    Calls Try.prog 51 #[.string s, .int .i64 a, .func (.func 52) #[] #[]] w fun e w' => e = .returned (readV s a (getO (from_ s a.toNat))) ∧ Below w.heap.size w w' := by
  by_cases hE : placeE s a = 0
  · obtain ⟨h1, h2, h3⟩ := placeE_zero hE
    obtain ⟨k, rfl⟩ := Int.eq_ofNat_of_zero_le h2
    rw [Int.toNat_natCast]
    have hn := fun w => groupsAt_any s k w h1 (by omega)
    generalize getO (from_ s k) = o at hn ⊢
    have HE := Lib.hid hE
    clear hE
    go_enter Try.func51, Try.ntmps51
    go_wp2_with (go_at_call 52; refine (hn _).mono ?_; rintro e w' ⟨⟨v, j, ok, rfl, hv, hor⟩, rfl⟩; rcases hor with ⟨rfl, hv2, kk, rfl, rfl⟩ | ⟨rfl, rfl⟩)
    · refine bodyPost_ret (v := .tuple #[.int .i64 (v : Int), .int .i64 ((k + kk : Nat) : Int), fault 0 0]) (by simp [results, Try.results51, go_sem]) rfl ⟨by rw [readV_some HE.out]; rfl, (Below.refl _ _).alloc (Nat.le_refl _) _⟩
    · refine bodyPost_ret (v := .tuple #[.int .i64 0, .int .i64 0, fault k 20]) (by simp [results, Try.results51, go_sem]) rfl ⟨by rw [readV_none HE.out], (Below.refl _ _).alloc (Nat.le_refl _) _⟩
  · have hor : 262144 < s.size ∨ (¬ 262144 < s.size ∧ a < 0) ∨ (¬ 262144 < s.size ∧ ¬ a < 0 ∧ (s.size : Int) < a) := by
      by_cases g1 : 262144 < s.size
      · exact .inl g1
      · by_cases g2 : a < 0
        · exact .inr (.inl ⟨g1, g2⟩)
        · by_cases g3 : (s.size : Int) < a
          · exact .inr (.inr ⟨g1, g2, g3⟩)
          · exact absurd (placeE_ok g1 (by omega)) hE
    have HE := Lib.hid hE
    clear hE
    rcases hor with g1 | ⟨g1, g2⟩ | ⟨g1, g2, g3⟩
    · rw [readV_bad HE.out, placeE_long g1]
      go_enter Try.func51, Try.ntmps51
      go_wp2
      refine bodyPost_ret (v := .tuple #[.int .i64 0, .int .i64 0, fault 0 2]) (by simp [results, Try.results51, go_sem]) rfl ⟨rfl, (Below.refl _ _).alloc (Nat.le_refl _) _⟩
    · rw [readV_bad HE.out, placeE_out g1 (.inl g2)]
      go_enter Try.func51, Try.ntmps51
      go_wp2
      refine bodyPost_ret (v := .tuple #[.int .i64 0, .int .i64 0, fault 0 1]) (by simp [results, Try.results51, go_sem]) rfl ⟨rfl, (Below.refl _ _).alloc (Nat.le_refl _) _⟩
    · rw [readV_bad HE.out, placeE_out g1 (.inr g3)]
      go_enter Try.func51, Try.ntmps51
      go_wp2
      refine bodyPost_ret (v := .tuple #[.int .i64 0, .int .i64 0, fault 0 1]) (by simp [results, Try.results51, go_sem]) rfl ⟨rfl, (Below.refl _ _).alloc (Nat.le_refl _) _⟩

set_option maxHeartbeats 2000000 in
/-- What the reader reads at the place is what read answers, once text and place are right. -/
theorem read_digitsAt (s : ByteArray) (a : Int) (w : World) (hs : s.size ≤ 9223372036854775807) :
    Calls Try.prog 51 #[.string s, .int .i64 a, .func (.func 56) #[] #[]] w fun e w' => e = .returned (readV s a (numO (from_ s a.toNat))) ∧ Below w.heap.size w w' := by
  by_cases hE : placeE s a = 0
  · obtain ⟨h1, h2, h3⟩ := placeE_zero hE
    obtain ⟨k, rfl⟩ := Int.eq_ofNat_of_zero_le h2
    rw [Int.toNat_natCast]
    have hn := fun w => digitsAt_any s k w h1 (by omega)
    generalize numO (from_ s k) = o at hn ⊢
    have HE := Lib.hid hE
    clear hE
    go_enter Try.func51, Try.ntmps51
    go_wp2_with (go_at_call 56; refine (hn _).mono ?_; rintro e w' ⟨⟨v, j, ok, rfl, hv, hor⟩, rfl⟩; rcases hor with ⟨rfl, hv2, kk, rfl, rfl⟩ | ⟨rfl, rfl⟩)
    · refine bodyPost_ret (v := .tuple #[.int .i64 (v : Int), .int .i64 ((k + kk : Nat) : Int), fault 0 0]) (by simp [results, Try.results51, go_sem]) rfl ⟨by rw [readV_some HE.out]; rfl, (Below.refl _ _).alloc (Nat.le_refl _) _⟩
    · refine bodyPost_ret (v := .tuple #[.int .i64 0, .int .i64 0, fault k 20]) (by simp [results, Try.results51, go_sem]) rfl ⟨by rw [readV_none HE.out], (Below.refl _ _).alloc (Nat.le_refl _) _⟩
  · have hor : 262144 < s.size ∨ (¬ 262144 < s.size ∧ a < 0) ∨ (¬ 262144 < s.size ∧ ¬ a < 0 ∧ (s.size : Int) < a) := by
      by_cases g1 : 262144 < s.size
      · exact .inl g1
      · by_cases g2 : a < 0
        · exact .inr (.inl ⟨g1, g2⟩)
        · by_cases g3 : (s.size : Int) < a
          · exact .inr (.inr ⟨g1, g2, g3⟩)
          · exact absurd (placeE_ok g1 (by omega)) hE
    have HE := Lib.hid hE
    clear hE
    rcases hor with g1 | ⟨g1, g2⟩ | ⟨g1, g2, g3⟩
    · rw [readV_bad HE.out, placeE_long g1]
      go_enter Try.func51, Try.ntmps51
      go_wp2
      refine bodyPost_ret (v := .tuple #[.int .i64 0, .int .i64 0, fault 0 2]) (by simp [results, Try.results51, go_sem]) rfl ⟨rfl, (Below.refl _ _).alloc (Nat.le_refl _) _⟩
    · rw [readV_bad HE.out, placeE_out g1 (.inl g2)]
      go_enter Try.func51, Try.ntmps51
      go_wp2
      refine bodyPost_ret (v := .tuple #[.int .i64 0, .int .i64 0, fault 0 1]) (by simp [results, Try.results51, go_sem]) rfl ⟨rfl, (Below.refl _ _).alloc (Nat.le_refl _) _⟩
    · rw [readV_bad HE.out, placeE_out g1 (.inr g3)]
      go_enter Try.func51, Try.ntmps51
      go_wp2
      refine bodyPost_ret (v := .tuple #[.int .i64 0, .int .i64 0, fault 0 1]) (by simp [results, Try.results51, go_sem]) rfl ⟨rfl, (Below.refl _ _).alloc (Nat.le_refl _) _⟩

theorem readV_form (s : ByteArray) (a : Int) (o : Option (Nat × Nat)) : ∃ x y u v, readV s a o = .tuple #[.int .i64 x, .int .i64 y, fault u v] := by
  unfold readV
  split
  · exact ⟨_, _, _, _, rfl⟩
  · cases o with
    | none => exact ⟨_, _, _, _, rfl⟩
    | some x => exact ⟨_, _, _, _, rfl⟩

set_option maxHeartbeats 2000000 in
theorem Get_any (s : ByteArray) (a : Int) (w : World) (hs : s.size ≤ 9223372036854775807) :
    Calls Try.prog 33 #[.string s, .int .i64 a] w fun e w' => e = .returned (readV s a (getO (from_ s a.toNat))) ∧ Below w.heap.size w w' := by
  have hr := fun w => read_groupsAt s a w hs
  obtain ⟨x, y, u, v, hv⟩ := readV_form s a (getO (from_ s a.toNat))
  rw [hv] at hr ⊢
  clear hv
  go_enter Try.func33, Try.ntmps33
  go_wp2_with (go_at_call 51; refine (hr _).mono ?_; rintro e w1 ⟨rfl, hb1⟩; obtain ⟨hc0, hf0, hz1⟩ := keep_box hb1 0; obtain ⟨hc1, hf1, _⟩ := keep_box hb1 1; have HB1 := Lib.hid hb1; clear hb1; simp at hc0 hc1)
  try go_region
  try go_wp2
  refine bodyPost_ret (v := .tuple #[.int .i64 x, .int .i64 y, fault u v]) (by simp [results, Try.results33, go_sem, hc0, hc1]) rfl ⟨rfl, ?_⟩
  first | exact ((Below.box HB1.out).setCell (Nat.le_refl _) _).setCell (Nat.le_refl _) _ | exact (((Below.box HB1.out).setCell (Nat.le_refl _) _).setCell (Nat.le_refl _) _).drew | exact (((Below.box HB1.out).drewN _).setCell (Nat.le_refl _) _).setCell (Nat.le_refl _) _

set_option maxHeartbeats 2000000 in
theorem Number_any (s : ByteArray) (a : Int) (w : World) (hs : s.size ≤ 9223372036854775807) :
    Calls Try.prog 40 #[.string s, .int .i64 a] w fun e w' => e = .returned (readV s a (numO (from_ s a.toNat))) ∧ Below w.heap.size w w' := by
  have hr := fun w => read_digitsAt s a w hs
  obtain ⟨x, y, u, v, hv⟩ := readV_form s a (numO (from_ s a.toNat))
  rw [hv] at hr ⊢
  clear hv
  go_enter Try.func40, Try.ntmps40
  go_wp2_with (go_at_call 51; refine (hr _).mono ?_; rintro e w1 ⟨rfl, hb1⟩; obtain ⟨hc0, hf0, hz1⟩ := keep_box hb1 0; obtain ⟨hc1, hf1, _⟩ := keep_box hb1 1; have HB1 := Lib.hid hb1; clear hb1; simp at hc0 hc1)
  try go_region
  try go_wp2
  refine bodyPost_ret (v := .tuple #[.int .i64 x, .int .i64 y, fault u v]) (by simp [results, Try.results40, go_sem, hc0, hc1]) rfl ⟨rfl, ?_⟩
  first | exact ((Below.box HB1.out).setCell (Nat.le_refl _) _).setCell (Nat.le_refl _) _ | exact (((Below.box HB1.out).setCell (Nat.le_refl _) _).setCell (Nat.le_refl _) _).drew | exact (((Below.box HB1.out).drewN _).setCell (Nat.le_refl _) _).setCell (Nat.le_refl _) _
end Go.Proofs.Ythchemgkfjmhjaa
