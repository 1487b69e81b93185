/- WordsNumbers's walk: any number as bytes and digits; numbers at any place of any text. -/
import Derived.Test.YthchemgkfjmhjaaDoorNumD
namespace Go.Proofs.YthchemgkfjmhjaaDoor
open Go.RowKit

/-- Block b holds the two fields x and y. -/
abbrev BoxF (w : World) (b : Nat) (x y : Int) : Prop := Blk w b 27 #[.int .i64 x, .int .i64 y]
theorem BoxF.on {w w' : World} {b : Nat} {x y : Int} (h : BoxF w b x y) (hb : Below w.heap.size w w') : BoxF w' b x y := Blk.below h hb (Blk.lt h)
theorem BoxF.new (w : World) (x y : Int) : BoxF (w.alloc (.cells #[.int .i64 x, .int .i64 y] 27)) w.heap.size x y := Blk.new w _ _
theorem BoxF.write {w : World} {b : Nat} {x y : Int} (h : BoxF w b x y) (x' y' : Int) : BoxF ((w.setCell ⟨b, 0, none⟩ (.int .i64 x')).setCell ⟨b, 1, none⟩ (.int .i64 y')) b x' y' := by
  have := (Blk.set_ (Blk.set_ h 0 (.int .i64 x')) 1 (.int .i64 y'))
  simpa using this
theorem BoxF.other {w : World} {b c : Nat} {x y : Int} (h : BoxF w b x y) (hbc : b ≠ c) (x' y' : Value) : BoxF ((w.setCell ⟨c, 0, none⟩ x').setCell ⟨c, 1, none⟩ y') b x y := Blk.far (Blk.far h (p := ⟨c, 0, none⟩) hbc x') (p := ⟨c, 1, none⟩) hbc y'
theorem below_write {w w' : World} {B b : Nat} {x y : Value} (h : Below B w w') (hb : B ≤ b) : Below B w ((w'.setCell ⟨b, 0, none⟩ x).setCell ⟨b, 1, none⟩ y) := (h.setCell hb _).setCell hb _

set_option maxHeartbeats 4000000 in
theorem numbersd_walk (w : World) (n : Int) (s : ByteArray) (a : Int) (ht : Tab w) (hs : s.size ≤ 9223372036854775807) :
    Calls Tryd.prog 3 #[.int .i64 n, .string s, .int .i64 a] w fun e w' => e = .returned (.bool true) ∧ Below w.heap.size w w' := by
  obtain ⟨p, r, d, g, hp1, hp2, hd1, hd2⟩ := num_both n
  have hg1 := fun wx => Get_any s a wx hs
  have hg2 := fun wx => RGet_any s a wx hs
  have hn1 := fun wx => Number_any s a wx hs
  have hn2 := fun wx => RNumber_any s a wx hs
  obtain ⟨x, y, u, v, hgv⟩ := readV_form s a (getO (from_ s a.toNat))
  obtain ⟨x', y', u', v', hnv⟩ := readV_form s a (numO (from_ s a.toNat))
  rw [hgv] at hg1 hg2
  rw [hnv] at hn1 hn2
  have HT := Lib.hid ht
  clear hgv hnv ht
  go_enter Tryd.func3, Tryd.ntmps3
  go_wp2_with (first
    | (go_at_call 5; refine (hp1 w).mono ?_; rintro e w1 ⟨rfl, b1⟩; have HB1 := Lib.hid b1; clear b1)
    | (go_at_call 6; refine (hp2 w1).mono ?_; rintro e w2 ⟨rfl, b2⟩; have HB2 := Lib.hid (bt HB1.out (Nat.le_refl _) b2); clear b2)
    | (go_at_call 7; refine (hd1 w2 (HT.out.on HB2.out)).mono ?_; rintro e w3 ⟨rfl, b3⟩; have HB3 := Lib.hid (bt HB2.out (Nat.le_refl _) b3); clear b3)
    | (go_at_call 8; refine (hd2 w3).mono ?_; rintro e w4 ⟨rfl, b4⟩; have HB4 := Lib.hid (bt HB3.out (Nat.le_refl _) b4); clear b4)
    | (go_at_call 9; refine (names_any w4).mono ?_; rintro e w' ⟨rfl, rfl⟩)
    | (go_at_call 10; refine (hg1 w4).mono ?_; rintro e w5 ⟨rfl, b5⟩; have HB5 := Lib.hid (bt HB4.out (Nat.le_refl _) b5); clear b5)
    | (go_at_call 11; refine (hg2 _).mono ?_; rintro e w6 ⟨rfl, b6⟩; have HB6 := Lib.hid (bt HB5.out (Nat.le_refl _) (Below.box b6)); have HI6 := Lib.hid ((BoxF.new w5 u v).on b6); have HIa := Lib.hid (HI6.out.on ((Below.refl w6.heap.size w6).alloc (Nat.le_refl _) (.cells #[.int .i64 u, .int .i64 v] 27)));  have ia0 := Blk.cell HIa.out 0; have ia1 := Blk.cell HIa.out 1; have fia0 := Blk.frozen HIa.out 0; have fia1 := Blk.frozen HIa.out 1; have zia := Blk.lt HIa.out; simp at ia0 ia1; clear b6)
    | (go_at_call 12; refine (hn1 _).mono ?_; rintro e w7 ⟨rfl, b7⟩; have HB7 := Lib.hid (bt HB6.out (Nat.le_refl _) (Below.box b7)); have HI7 := Lib.hid (HI6.out.on (Below.box b7)); have HJ7 := Lib.hid ((BoxF.new w6 u v).on b7); have HNE := Lib.hid (Nat.ne_of_lt (Blk.lt HI6.out)); have ib0 := Blk.cell HI7.out 0; have ib1 := Blk.cell HI7.out 1; have fib0 := Blk.frozen HI7.out 0; have fib1 := Blk.frozen HI7.out 1; have zib := Blk.lt HI7.out; simp at ib0 ib1; clear b7)
    | (go_at_call 13; refine (hn2 _).mono ?_; rintro e w8 ⟨rfl, b8⟩; have hw7 := below_write (x := .int .i64 u') (y := .int .i64 v') HB7.out HB5.out.size; have HB8 := Lib.hid (bt hw7 (Nat.le_refl _) b8); have HI8 := Lib.hid ((HI7.out.write u' v').on b8); have HJ8 := Lib.hid ((HJ7.out.other HNE.out.symm (.int .i64 u') (.int .i64 v')).on b8); have jc0 := Blk.cell HJ8.out 0; have jc1 := Blk.cell HJ8.out 1; have fjc0 := Blk.frozen HJ8.out 0; have fjc1 := Blk.frozen HJ8.out 1; have zjc := Blk.lt HJ8.out; simp at jc0 jc1; have HI9 := Lib.hid (HI8.out.other HNE.out (.int .i64 u') (.int .i64 v')); have HJ9 := Lib.hid (HJ8.out.write u' v'); have id0 := Blk.cell HI9.out 0; have id1 := Blk.cell HI9.out 1; have fid0 := Blk.frozen HI9.out 0; have fid1 := Blk.frozen HI9.out 1; have zid := Blk.lt HI9.out; simp at id0 id1; have je0 := Blk.cell HJ9.out 0; have je1 := Blk.cell HJ9.out 1; have fje0 := Blk.frozen HJ9.out 0; have fje1 := Blk.frozen HJ9.out 1; have zje := Blk.lt HJ9.out; simp at je0 je1; clear b8 hw7)
    | (go_at_call 14; refine (works_any _).mono ?_; rintro e w9 ⟨rfl, b9⟩; have hw8 := below_write (x := .int .i64 u') (y := .int .i64 v') HB8.out HB6.out.size; have HB9 := Lib.hid (bt hw8 (Nat.le_refl _) b9); clear b9 hw8))
  go_ret
  exact ⟨rfl, HB9.out⟩
end Go.Proofs.YthchemgkfjmhjaaDoor
