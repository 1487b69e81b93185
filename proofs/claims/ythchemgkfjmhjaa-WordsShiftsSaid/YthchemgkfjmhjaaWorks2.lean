/- The statements' own examples: trestlelaw02.works answers true in whatever world. -/
import Derived.Test.YthchemgkfjmhjaaReadP
import Derived.Test.YthchemgkfjmhjaaCheck
namespace Go.Proofs.Ythchemgkfjmhjaa
open Go.RowKit

theorem put_128 : strOf (groups 128) = { data := #[128, 1] } := by
  rw [groups_more (by omega), groups_one (by omega)]; rfl
theorem num_12 : readV { data := #[97, 49, 50, 98] } 1 (numO (from_ { data := #[97, 49, 50, 98] } (1 : Int).toNat)) = .tuple #[.int .i64 12, .int .i64 3, fault 0 0] := by
  have h : numO (from_ { data := #[97, 49, 50, 98] } (1 : Int).toNat) = some (12, 2) := by decide +kernel
  rw [h, readV_some (placeE_ok (by decide) (by decide))]; rfl
theorem pack_5 : packL [true, false, true] = [5] := by decide +kernel
theorem row_new (w : World) : Row (w.alloc (.cells #[.bool true, .bool false, .bool true] 4)) (.slice (some ⟨w.heap.size, 0, none⟩) 3 3) (bls [true, false, true]) := by
  refine ⟨_, 3, rfl, by simp, by simp [maxLen], fun i hi => ⟨w.heap.size, 0, rfl, by simp, ?_⟩⟩
  rw [cell_of_row _ _ _ #[.bool true, .bool false, .bool true] 4 (0, 0) (heap_alloc_new w _)]
  have : i = 0 ∨ i = 1 ∨ i = 2 := by simp at hi; omega
  rcases this with rfl | rfl | rfl <;> rfl
theorem own_word1 {w : World} {B n : Nat} {v : Value} (h : w.ownsRow B 32 1 v 1 (wds [n])) : ∃ b off c, v = .slice (some ⟨b, off, none⟩) 1 c ∧ 1 ≤ c ∧ b < w.heap.size ∧ w.cell? ⟨b, off, none⟩ = some (.int .u64 (n : Int)) := by
  obtain ⟨A, c, rfl, h1, h2, h3⟩ := own_row h
  obtain ⟨b, off, rfl, hb, hc⟩ := h3.word 0 (by simp)
  exact ⟨b, off, c, rfl, by simpa using h1, hb, hc⟩

theorem keep_two {w w1 : World} {cs : Array Value} {t : TypeId} {o : Obj} (hb : Below ((w.alloc (.cells cs t)).alloc o).heap.size ((w.alloc (.cells cs t)).alloc o) w1) (i : Nat) : w1.cell? ⟨w.heap.size, i, none⟩ = cs[i]? := by
  have h := ((Blk.new w t cs).alloc o).below hb (by simp; omega)
  exact h.cell i

set_option maxHeartbeats 2000000 in
theorem works_any (w : World) : Calls Try.prog 18 #[] w fun e w' => e = .returned (.bool true) ∧ Below w.heap.size w w' := by
  have h1 : ∀ wx, Calls Try.prog 34 #[.int .i64 128] wx fun e w' => e = .returned (.tuple #[.string { data := #[128, 1] }, .int .i64 0]) ∧ Below wx.heap.size wx w' := fun wx => by
    have := Put_ok 128 wx (by omega)
    rw [put_128] at this; exact this
  have h2 : ∀ wx, Calls Try.prog 40 #[.string { data := #[97, 49, 50, 98] }, .int .i64 1] wx fun e w' => e = .returned (.tuple #[.int .i64 12, .int .i64 3, fault 0 0]) ∧ Below wx.heap.size wx w' := fun wx => by
    have := Number_any { data := #[97, 49, 50, 98] } 1 wx (by decide)
    rw [num_12] at this; exact this
  have h3 : ∀ (wx : World) (g : Nat), g = wx.heap.size → Calls Try.prog 10 #[.slice (some ⟨g, 0, none⟩) 3 3] (wx.alloc (.cells #[.bool true, .bool false, .bool true] 4)) fun e w' => ∃ v', e = .returned (.tuple #[v', .int .i64 0]) ∧ Below (wx.alloc (.cells #[.bool true, .bool false, .bool true] 4)).heap.size (wx.alloc (.cells #[.bool true, .bool false, .bool true] 4)) w' ∧ w'.ownsRow (wx.alloc (.cells #[.bool true, .bool false, .bool true] 4)).heap.size 32 1 v' 1 (wds [5]) := fun wx g hg => by
    subst hg
    have := Pack_ok _ _ [true, false, true] (row_new wx) (by simp)
    rw [pack_5] at this; exact this
  go_enter Try.func18, Try.ntmps18
  go_wp2_with (first
    | (go_at_call 34; refine (h1 _).mono ?_; rintro e w1 ⟨rfl, hb1⟩; have HB1 := Lib.hid hb1; clear hb1)
    | (go_at_call 40; refine (h2 _).mono ?_; rintro e w2 ⟨rfl, hb2⟩; have HB2 := Lib.hid hb2; clear hb2)
    | (go_at_call 10; go_loud (refine (h3 _ _ (by simp)).mono ?_; rintro e w3 ⟨v3, rfl, hb3, ho3⟩; have hk0 := keep_two hb3 0; have hk1 := keep_two hb3 1; simp at hk0 hk1; have HB3 := Lib.hid hb3; obtain ⟨g3, o3, c3, rfl, hc3, hg3, hcell3⟩ := own_word1 ho3; clear hb3 ho3)))
  go_ret
  exact ⟨rfl, bt (bt HB1.out (Nat.le_refl _) HB2.out) (Nat.le_refl _) ((((Below.refl _ _).alloc (Nat.le_refl _) _).alloc (by simp) _).trans (HB3.out.mono (by simp; omega)))⟩
end Go.Proofs.Ythchemgkfjmhjaa
