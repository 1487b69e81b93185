/- WordsTexts's walk: any text as a row, any number as a row. -/
import Derived.Test.YthchemgkfjmhjaaWorks2
import Derived.Test.YthchemgkfjmhjaaRefBits
import Derived.Test.YthchemgkfjmhjaaRefRow
import Derived.Test.YthchemgkfjmhjaaSame
namespace Go.Proofs.Ythchemgkfjmhjaa
open Go.RowKit

/-- Block b holds the two fields x and y. -/
def Box (w : World) (b : Nat) (x y : Int) : Prop := b < w.heap.size ∧ w.cell? ⟨b, 0, none⟩ = some (.int .i64 x) ∧ w.cell? ⟨b, 1, none⟩ = some (.int .i64 y)
theorem Box.below {w w' : World} {b : Nat} {x y : Int} (h : Box w b x y) (hb : Below w.heap.size w w') : Box w' b x y :=
  ⟨Nat.lt_of_lt_of_le h.1 hb.size, (hb.cell (p := ⟨b, 0, none⟩) h.1).trans h.2.1, (hb.cell (p := ⟨b, 1, none⟩) h.1).trans h.2.2⟩
theorem Box.new (w : World) (x y : Int) (t : TypeId) : Box (w.alloc (.cells #[.int .i64 x, .int .i64 y] t)) w.heap.size x y := by
  have h := Blk.new w t #[.int .i64 x, .int .i64 y]
  exact ⟨by simp, h.cell 0, h.cell 1⟩

/-- A call that answers a row and a fault, always the same. -/
def BitsAns (x y : Int) (bs : List Bool) (w : World) (e : Ending) (w' : World) : Prop := ∃ v', e = .returned (.tuple #[v', fault x y]) ∧ Below w.heap.size w w' ∧ Row w' v' (bls bs)
theorem bits_both (s : ByteArray) (hs : s.size ≤ 9223372036854775807) : ∃ x y bs, (∀ w, Calls Try.prog 19 #[.string s] w (BitsAns x y bs w)) ∧ (∀ w, Calls Try.prog 20 #[.string s] w (BitsAns x y bs w)) := by
  by_cases h : 16384 < s.size
  · refine ⟨0, 2, [], fun w => (Bits_long s w hs h).mono ?_, fun w => (RBits_long s w hs h).mono ?_⟩
    all_goals rintro e w' ⟨rfl, hb⟩
    all_goals exact ⟨_, rfl, hb, Row_nil w'⟩
  · obtain ⟨o, ho⟩ := first_exists s
    have h1 := fun w => Bits_any s w o ho (by omega)
    have h2 := fun w => RBits_any s w o ho (by omega)
    cases o with
    | some i =>
      refine ⟨i, 21, [], fun w => (h1 w).mono ?_, fun w => (h2 w).mono ?_⟩
      all_goals rintro e w' ⟨rfl, hb⟩
      all_goals exact ⟨_, rfl, hb, Row_nil w'⟩
    | none =>
      refine ⟨0, 0, mkb s.size (sbit s), fun w => (h1 w).mono ?_, fun w => (h2 w).mono ?_⟩
      all_goals rintro e w' ⟨v', rfl, hb, ho⟩
      all_goals exact ⟨_, rfl, hb, own_row ho⟩

def RowAns (r : Int) (bs : List Bool) (w : World) (e : Ending) (w' : World) : Prop := ∃ v', e = .returned (.tuple #[v', .int .i64 r]) ∧ Below w.heap.size w w' ∧ Row w' v' (bls bs)
theorem row_both (x n : Int) (hx : -9223372036854775808 ≤ x ∧ x ≤ 9223372036854775807) (hn : -9223372036854775808 ≤ n ∧ n ≤ 9223372036854775807) :
    ∃ r bs, (∀ w, Calls Try.prog 21 #[.int .i64 x, .int .i64 n] w (RowAns r bs w)) ∧ (∀ w, Calls Try.prog 22 #[.int .i64 x, .int .i64 n] w (RowAns r bs w)) := by
  by_cases h : rowBad x n
  · refine ⟨1, [], fun w => (Row_bad x n w h hx hn).mono ?_, fun w => (RRow_bad x n w h hx hn).mono ?_⟩
    all_goals rintro e w' ⟨rfl, rfl⟩
    all_goals exact ⟨_, rfl, Below.refl _ _, Row_nil _⟩
  · have h1 : 0 ≤ n ∧ n ≤ 62 ∧ 0 ≤ x ∧ x.toNat < 2 ^ n.toNat := by
      unfold rowBad at h
      refine ⟨?_, ?_, ?_, ?_⟩
      · apply Int.not_lt.1; intro h2; exact h (.inl h2)
      · apply Int.not_lt.1; intro h2; exact h (.inr (.inl h2))
      · apply Int.not_lt.1; intro h2; exact h (.inr (.inr (.inl h2)))
      · apply Nat.not_le.1; intro h2; exact h (.inr (.inr (.inr h2)))
    obtain ⟨h2, h3, h4, h5⟩ := h1
    obtain ⟨m, rfl⟩ := Int.eq_ofNat_of_zero_le h2
    obtain ⟨y, rfl⟩ := Int.eq_ofNat_of_zero_le h4
    rw [Int.toNat_natCast, Int.toNat_natCast] at h5
    refine ⟨0, mkb m (fun i => y.testBit i), fun w => (Row_ok y m w (by omega) h5).mono ?_, fun w => (RRow_ok y m w (by omega) h5).mono ?_⟩
    all_goals rintro e w' ⟨v', rfl, hb, ho⟩
    all_goals exact ⟨_, rfl, hb, own_row ho⟩

set_option maxHeartbeats 4000000 in
theorem texts_walk (w : World) (s : ByteArray) (x n : Int) (hs : s.size ≤ 9223372036854775807) (hx : -9223372036854775808 ≤ x ∧ x ≤ 9223372036854775807) (hn : -9223372036854775808 ≤ n ∧ n ≤ 9223372036854775807) :
    Calls Try.prog 4 #[.string s, .int .i64 x, .int .i64 n] w fun e w' => e = .returned (.bool true) ∧ Below w.heap.size w w' := by
  obtain ⟨p, q, bs, hb1, hb2⟩ := bits_both s hs
  obtain ⟨r, cs, hr1, hr2⟩ := row_both x n hx hn
  have hsb := fun wx v u h h' => SameBools_any wx v u bs bs h h'
  have hsc := fun wx v u h h' => SameBools_any wx v u cs cs h h'
  rw [decide_eq_true rfl] at hsb hsc
  have t1 : (p == p) = true := by simp
  have t2 : (q == q) = true := by simp
  have t3 : (r == r) = true := by simp
  go_enter Try.func4, Try.ntmps4
  go_wp2_with (first
    | (go_at_call 19; refine (hb1 _).mono ?_; rintro e w1 ⟨v1, rfl, b1, r1⟩; have HB1 := Lib.hid b1; have HR1 := Lib.hid r1; clear b1 r1)
    | (go_at_call 20; refine (hb2 _).mono ?_; rintro e w2 ⟨v2, rfl, b2, r2⟩; have HB2 := Lib.hid (bt HB1.out (Nat.le_refl _) (Below.box b2)); have HX2 := Lib.hid ((Box.new w1 p q 37).below b2); have HR12 := Lib.hid (HR1.out.below (Below.box b2)); have HR2 := Lib.hid r2; clear b2 r2)
    | (go_at_call 21; refine (hr1 _).mono ?_; rintro e w3 ⟨v3, rfl, b3, r3⟩; have HB3 := Lib.hid (bt HB2.out (Nat.le_refl _) (Below.box b3)); have HX3 := Lib.hid (HX2.out.below (Below.box b3)); have HY3 := Lib.hid ((Box.new w2 p q 37).below b3); have HR13 := Lib.hid (HR12.out.below (Below.box b3)); have HR23 := Lib.hid (HR2.out.below (Below.box b3)); have HR3 := Lib.hid r3; clear b3 r3)
    | (go_at_call 22; refine (hr2 _).mono ?_; rintro e w4 ⟨v4, rfl, b4, r4⟩; have HB4 := Lib.hid (bt HB3.out (Nat.le_refl _) b4); have HX4 := Lib.hid (HX3.out.below b4); have HY4 := Lib.hid (HY3.out.below b4); have HR14 := Lib.hid (HR13.out.below b4); have HR24 := Lib.hid (HR23.out.below b4); have HR34 := Lib.hid (HR3.out.below b4); have HR4 := Lib.hid r4; clear b4 r4)
    | (go_at_call 17; (with_reducible refine (hsb _ v1 v2 HR14.out HR24.out).mono ?_); rintro e w5 ⟨rfl, b5⟩; have HB5 := Lib.hid (bt HB4.out (Nat.le_refl _) b5); have HX5 := Lib.hid (HX4.out.below b5); have HY5 := Lib.hid (HY4.out.below b5); have hc0 := HX5.out.2.1; have hc1 := HX5.out.2.2; have hd0 := HY5.out.2.1; have hd1 := HY5.out.2.2; have HR35 := Lib.hid (HR34.out.below b5); have HR45 := Lib.hid (HR4.out.below b5); clear b5)
    | (go_at_call 17; (with_reducible refine (hsc _ v3 v4 HR35.out HR45.out).mono ?_); rintro e w6 ⟨rfl, b6⟩; have HB6 := Lib.hid (bt HB5.out (Nat.le_refl _) b6); clear b6)
    | (go_at_call 18; refine (works_any _).mono ?_; rintro e w7 ⟨rfl, b7⟩; have HB7 := Lib.hid (bt HB6.out (Nat.le_refl _) b7); clear b7))
  go_ret
  exact ⟨rfl, HB7.out⟩
end Go.Proofs.Ythchemgkfjmhjaa
