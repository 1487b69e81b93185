/- The order by which the program sorts literals (lits.compare), and the library's sort and search by it: slices.SortFunc at a clause puts the row in that order; slices.BinarySearchFunc at a clause finds a literal in a row that is in order. -/
import Derived.Test.YtcppmjgglcobcaaOwn
import Derived.Test.YtcppmjgglcobcaaShelf
import Derived.Shelf.SlSortCmp.Whole1
import Derived.Lib.OwnBridge
namespace Go.Proofs.Ytcppmjgglcobcaa
open Go.RowKit Go.Shelf Go.Lib Go.Sort

/-- 'variable' as the machine has it, at whatever number. -/
def absW (x : Int) : Int := max x (IntKind.i64.wrap (-x))
theorem absW_eq {x : Int} (h0 : -262144 ≤ x) (h1 : x ≤ 262144) : absW x = absI x := by
  unfold absW absI; rw [IntKind.wrap_i64]; omega

/-- What 'compare' answers. -/
def cmpV (x y : Int) : Int := if compareInt (absW x) (absW y) = 0 then compareInt x y else compareInt (absW x) (absW y)

theorem variable_all (x : Int) (w : World) : Calls Try.prog 39 #[.int .i64 x] w fun e w' => e = .returned (.int .i64 (absW x)) ∧ w = w' := by
  unfold absW
  generalize hy : IntKind.i64.wrap (-x) = y
  by_cases h : x ≤ y
  · have hm : max x y = y := by omega
    rw [hm]
    go_enter Try.func39, Try.ntmps39
    go_wp2
    go_ret
    exact ⟨rfl, rfl⟩
  · have hm : max x y = x := by omega
    rw [hm]
    go_enter Try.func39, Try.ntmps39
    go_wp2
    go_ret
    exact ⟨rfl, rfl⟩

def orV (a b : Int) : Int := if a = 0 then b else a

set_option maxHeartbeats 400000 in
theorem Or_any (a b : Int) (g : Nat) (w : World) (h0 : w.cell? ⟨g, 0, none⟩ = some (.int .i64 a)) (h1 : w.cell? ⟨g, 1, none⟩ = some (.int .i64 b)) :
    Calls Try.prog 68 #[.slice (some ⟨g, 0, none⟩) 2 2] w fun e w' => e = .returned (.int .i64 (orV a b)) ∧ w = w' := by
  generalize hr : orV a b = r
  have HR := Lib.hid hr
  clear hr
  go_enter Try.func68, Try.ntmps68
  go_wp2
  go_loop [8] (fun i => ∃ k : Nat, k ≤ 2 ∧ i = .int .i64 k ∧ (0 < k → a = 0) ∧ (1 < k → b = 0)) (fun i => 2 - (intOf i).toNat)
  case atStart => exact ⟨0, by omega, rfl, by omega, by omega⟩
  case round =>
    obtain ⟨k, hk, rfl, ha, hb⟩ := hrel
    have HA := Lib.hid ha
    have HB := Lib.hid hb
    clear ha hb
    obtain rfl | rfl | rfl : k = 0 ∨ k = 1 ∨ k = 2 := by omega
    · by_cases ha : a = 0
      · have hb1 : (a != 0) = false := by simp [ha]
        have hb2 : (a == 0) = true := by simp [ha]
        have HX := Lib.hid ha
        clear ha
        go_wp2
        go_round
        case rel => exact ⟨1, by omega, by go_num, fun _ => HX.out, by omega⟩
        case measure => simp [intOf]
      · have hb1 : (a != 0) = true := by simp [ha]
        have hb2 : (a == 0) = false := by simp [ha]
        go_wp2
        go_ret
        exact ⟨ret_int (by rw [← HR.out]; simp [orV, ha]), rfl⟩
    · by_cases ha : b = 0
      · have hb1 : (b != 0) = false := by simp [ha]
        have hb2 : (b == 0) = true := by simp [ha]
        have HX := Lib.hid ha
        clear ha
        go_wp2
        go_round
        case rel => exact ⟨2, by omega, by go_num, fun _ => HA.out (by omega), fun _ => HX.out⟩
        case measure => simp [intOf]
      · have hb1 : (b != 0) = true := by simp [ha]
        have hb2 : (b == 0) = false := by simp [ha]
        go_wp2
        go_ret
        exact ⟨ret_int (by rw [← HR.out]; simp [orV, HA.out (by omega)]), rfl⟩
    · go_wp2
      go_ret
      exact ⟨ret_int (by rw [← HR.out]; simp [orV, HA.out (by omega), HB.out (by omega)]), rfl⟩

theorem cmpV_eq (x y : Int) : cmpV x y = orV (compareInt (absW x) (absW y)) (compareInt x y) := rfl

set_option maxHeartbeats 400000 in
theorem compare_any (x y : Int) (w : World) : Calls Try.prog 61 #[.int .i64 x, .int .i64 y] w fun e w' => e = .returned (.int .i64 (cmpV x y)) ∧ ∃ o, w' = w.alloc o := by
  have h1 := Try.cmp_Compare_int (absW x) (absW y)
  have h2 := Try.cmp_Compare_int x y
  rw [cmpV_eq]
  generalize compareInt (absW x) (absW y) = a at h1 ⊢
  generalize compareInt x y = b at h2 ⊢
  have h3 := Or_any a b w.heap.size (w.alloc (.cells #[.int .i64 a, .int .i64 b] 3)) (by simp) (by simp)
  generalize orV a b = r at h3 ⊢
  have v1 := variable_all x
  have v2 := variable_all y
  generalize absW x = p at h1 v1
  generalize absW y = q at h1 v2
  go_enter Try.func61, Try.ntmps61
  go_wp2_with (first
    | (go_at_call 39; with_reducible refine (v1 _).mono ?_; rintro e w' ⟨rfl, rfl⟩)
    | (go_at_call 39; with_reducible refine (v2 _).mono ?_; rintro e w' ⟨rfl, rfl⟩)
    | (go_at_call 64; with_reducible refine (h1 _).mono ?_; rintro e w' ⟨rfl, rfl⟩)
    | (go_at_call 64; with_reducible refine (h2 _).mono ?_; rintro e w' ⟨rfl, rfl⟩)
    | (go_at_call 68; refine h3.mono ?_; rintro e w' ⟨rfl, rfl⟩))
  go_ret
  exact ⟨rfl, _, rfl⟩

theorem ltOf_cmpV (x y : Int) : ltOf cmpV x y = decide (absW x < absW y ∨ absW x = absW y ∧ x < y) := by
  unfold ltOf cmpV compareInt
  by_cases h1 : absW x < absW y
  · simp [h1]
  · by_cases h2 : absW y < absW x
    · have : absW x ≠ absW y := by omega
      simp [h1, h2, this]
    · have : absW x = absW y := by omega
      by_cases h3 : x < y
      · simp [this, h3]
      · by_cases h4 : y < x <;> simp [this, h3, h4]

theorem cmpV_zero (x y : Int) : cmpV x y = 0 ↔ x = y := by
  unfold cmpV compareInt
  by_cases h1 : absW x < absW y
  · simp [h1]; rintro rfl; omega
  · by_cases h2 : absW y < absW x
    · simp [h1, h2]; rintro rfl; omega
    · by_cases h3 : x < y
      · simp [h1, h2, h3]; omega
      · by_cases h4 : y < x
        · simp [h1, h2, h3, h4]; omega
        · simp [h1, h2, h3, h4]; omega

theorem cmpV_neg (x y : Int) : cmpV x y < 0 ↔ (absW x < absW y ∨ absW x = absW y ∧ x < y) := by
  have := ltOf_cmpV x y
  unfold ltOf at this
  exact decide_eq_decide.1 this

theorem swo : SWO (ltOf cmpV) where
  irrefl x := by rw [ltOf_cmpV]; simp
  trans x y z h1 h2 := by rw [ltOf_cmpV] at *; simp at *; omega
  ntrans x y z h1 h2 := by rw [ltOf_cmpV] at *; simp at *; omega

theorem eg_compare : ∀ args w, (callFunc 61 args).run Try.prog w = .ok (.enter 61 args) w := enters_of Try.func61 (by kernel_rfl) rfl

theorem cmpLays (blk off size : Nat) (w : World) : CmpLays1 Try.prog 61 #[] (Value.int .i64) cmpV blk off size w :=
  fun m os dk _ x y => (compare_any x y _).mono fun _ _ ⟨he, o, hw⟩ => ⟨he, 0, #[o], by rw [hw, alloc_eq_grow]; rfl⟩

theorem cmpLaysT (t : Int) (blk off size : Nat) (w : World) : CmpLaysT Try.prog 61 #[] (Value.int .i64) (.int .i64 t) (fun x => cmpV x t) blk off size w :=
  fun m os dk _ x => (compare_any x t _).mono fun _ _ ⟨he, o, hw⟩ => ⟨he, 0, #[o], by rw [hw, alloc_eq_grow]; rfl⟩

set_option maxHeartbeats 1000000 in
/-- slices.SortFunc at a clause, by 'compare': the row holds a permutation of what it held, in order. -/
theorem sort_any (blk cap : Nat) (d : Array Int) (w : World) (hH : Holds (Value.int .i64) w blk 0 d) (hblk : blk < w.heap.size) (hsz : d.size ≤ 16384) :
    Calls Try.prog 60 #[.slice (some ⟨blk, 0, none⟩) d.size cap, .func (.func 61) #[] #[]] w fun e w' =>
      e = .returned (.tuple #[]) ∧ ∃ d' n os, PermIn 0 d.size d d' ∧ SortedIn (ltOf cmpV) 0 d.size d' ∧ w' = sortWorld (Value.int .i64) w blk 0 n d' os := by
  have hlim : Lib.bitLen d.size < 4611686018427387904 := Nat.lt_of_le_of_lt (Lib.bitLen_le d.size 62 (by omega) (by omega)) (by omega)
  have hp := Try.pdqsortCmpFunc_all (Value.int .i64) cmpV 61 #[] swo blk 0 cap d w eg_compare (cmpLays blk 0 d.size w) ⟨fun _ => rfl, hH, hblk⟩ (d.size + 1) 0 d.size (Lib.bitLen d.size) d w (by omega) rfl (SW.start hH) (Nat.zero_le _) (Nat.le_refl _) (Nat.lt_of_le_of_lt hsz (by decide)) hlim (Or.inl rfl)
  have hl : Calls Try.prog 67 #[.int .u64 (d.size : Int)] w fun e w' => e = .returned (.int .i64 (Lib.bitLen d.size : Nat)) ∧ w' = w := by
    have h := Try.bits_Len (d.size : Int) w (by omega) (by omega)
    rwa [Int.toNat_natCast] at h
  have wr : IntKind.u64.wrap (d.size : Int) = d.size := by simp [IntKind.wrap, IntKind.bits, IntKind.signed]; omega
  have hq := pdq_sorts (ltOf cmpV) swo d 0 d.size (Lib.bitLen d.size) true true (Nat.zero_le _) (Nat.le_refl _) (Or.inl rfl)
  generalize pdq (ltOf cmpV) d 0 d.size (Lib.bitLen d.size) true true = d' at hp hq
  generalize Lib.bitLen d.size = l at hp hl hlim
  have HQ := Lib.hid hq
  clear hH hq
  go_enter Try.func60, Try.ntmps60
  go_wp2_with (first | (go_at_call 67; refine hl.mono ?_; rintro e w' ⟨rfl, rfl⟩) | (go_at_call 66; refine hp.mono ?_; rintro e w' ⟨rfl, n, os, rfl⟩))
  go_end0
  exact ⟨rfl, d', n, os, HQ.out.1, HQ.out.2, rfl⟩
end Go.Proofs.Ytcppmjgglcobcaa
