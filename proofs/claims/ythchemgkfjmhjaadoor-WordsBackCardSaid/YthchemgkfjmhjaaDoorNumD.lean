/- WordsNumbers's and WordsBack's walks: numbers as bytes and digits, and back. -/
import Derived.Test.YthchemgkfjmhjaaDoorWorksD
import Derived.Test.YthchemgkfjmhjaaDoorRGet
import Derived.Test.YthchemgkfjmhjaaDoorDoorShelf
import Derived.Lib.AppendIntMem
namespace Go.Proofs.YthchemgkfjmhjaaDoor
open Go.RowKit

theorem decs_lib : ∀ n, Lib.decDigits n = decs n := by
  intro n
  induction n using Nat.strongRecOn with
  | _ n ih =>
    by_cases h : n < 10
    · rw [decs_one h, Lib.decDigits, dif_pos h]; rfl
    · rw [decs_more h, Lib.decDigits, dif_neg h, ih (n / 10) (by omega)]; rfl

/-- The library's table of powers of ten stands, whatever is made from here on. -/
def Tab (w : World) : Prop := Lib.TabBelow Tryd.prog w.heap.size w "internal/strconv.uint64pow10" .u64 Lib.pow10Tab
theorem Tab.on {w w' : World} (h : Tab w) (hb : Below w.heap.size w w') : Tab w' := fun w2 h2 => h w2 (bt hb (Nat.le_refl _) h2)

theorem Digits_bad (n : Int) (w : World) (h : isNum n = false) : Calls Tryd.prog 7 #[.int .i64 n] w fun e w' => e = .returned (.tuple #[.string (strOf []), .int .i64 1]) ∧ w = w' := by
  have hn := isNumber_any n
  rw [h] at hn
  go_enter Tryd.func7, Tryd.ntmps7
  go_wp2_with (go_at_call 15; refine (hn _).mono ?_; rintro e w' ⟨rfl, rfl⟩)
  go_ret2
  exact ⟨rfl, rfl⟩
theorem Digits_ok (n : Nat) (w : World) (h : n ≤ 2147483647) (ht : Tab w) : Calls Tryd.prog 7 #[.int .i64 n] w fun e w' => e = .returned (.tuple #[.string (strOf (decs n)), .int .i64 0]) ∧ Below w.heap.size w w' := by
  have hn := isNumber_any (n : Int)
  rw [isNum_yes (by omega) (by omega)] at hn
  have hi := Tryd.strconv_Itoa (n : Int) (by omega) (by omega) w ht.here
  have e : Lib.itoa (n : Int) = decs n := by unfold Lib.itoa; rw [if_neg (by omega), Int.toNat_natCast, decs_lib]
  rw [e] at hi
  have hi2 : Calls Tryd.prog 17 #[.int .i64 n] w fun e w' => e = .returned (.string (strOf (decs n))) ∧ Below w.heap.size w w' := hi.mono fun e w' ⟨h1, k, os, h2⟩ => ⟨h1, by rw [h2]; exact Lib.below_grow _ _ (Nat.le_refl _) k os⟩
  generalize strOf (decs n) = s at hi2 ⊢
  clear hi e ht
  go_enter Tryd.func7, Tryd.ntmps7
  go_wp2_with (first
    | (go_at_call 15; refine (hn _).mono ?_; rintro e w' ⟨rfl, rfl⟩)
    | (go_at_call 17; refine hi2.mono ?_; rintro e w1 ⟨rfl, hb1⟩))
  go_ret2
  exact ⟨rfl, hb1⟩

def StrAns (s : ByteArray) (r : Int) (w : World) (e : Ending) (w' : World) : Prop := e = .returned (.tuple #[.string s, .int .i64 r]) ∧ Below w.heap.size w w'
theorem num_both (n : Int) : ∃ s r d g, (∀ w, Calls Tryd.prog 5 #[.int .i64 n] w (StrAns s r w)) ∧ (∀ w, Calls Tryd.prog 6 #[.int .i64 n] w (StrAns s r w)) ∧
    (∀ w, Tab w → Calls Tryd.prog 7 #[.int .i64 n] w (StrAns d g w)) ∧ (∀ w, Calls Tryd.prog 8 #[.int .i64 n] w (StrAns d g w)) := by
  by_cases h : 0 ≤ n ∧ n ≤ 2147483647
  · obtain ⟨m, rfl⟩ := Int.eq_ofNat_of_zero_le h.1
    have hm : m ≤ 2147483647 := by omega
    refine ⟨strOf (groups m), 0, strOf (decs m), 0, fun w => Put_ok m w hm, fun w => Put0_ok m w hm, fun w ht => Digits_ok m w hm ht, fun w => (Digits0_ok m w hm).mono ?_⟩
    rintro e w' ⟨rfl, rfl⟩
    exact ⟨rfl, Below.refl _ _⟩
  · have hb : isNum n = false := by
      cases hi : isNum n
      · rfl
      · exact absurd (isNum_iff.1 hi) h
    have hb2 : n < 0 ∨ 2147483647 < n := by omega
    refine ⟨strOf [], 1, strOf [], 1, fun w => (Put_bad n w hb).mono ?_, fun w => (Put0_bad n w hb2).mono ?_, fun w _ => (Digits_bad n w hb).mono ?_, fun w => (Digits0_bad n w hb2).mono ?_⟩
    all_goals rintro e w' ⟨rfl, rfl⟩
    all_goals exact ⟨rfl, Below.refl _ _⟩

theorem names_any (w : World) : Calls Tryd.prog 9 #[] w fun e w' => e = .returned (.bool true) ∧ w = w' := by
  go_enter Tryd.func9, Tryd.ntmps9
  go_wp2
  go_ret
  exact ⟨rfl, rfl⟩
end Go.Proofs.YthchemgkfjmhjaaDoor
