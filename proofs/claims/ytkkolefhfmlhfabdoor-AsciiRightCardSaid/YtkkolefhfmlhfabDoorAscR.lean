/- Ascii: the header. -/
import Derived.Test.YtkkolefhfmlhfabDoorAscQ
import Derived.Laws.CopyOwn
namespace Go.Proofs.YtkkolefhfmlhfabDoor
open Go.RowKit

/-- Counts that may not be. -/
def badC (c : List Nat) : Bool := c.any (fun n => decide (16384 < n)) || decide (c.getD 0 0 < c.getD 1 0 + c.getD 2 0 + c.getD 4 0)
set_option maxHeartbeats 8000000 in
set_option maxRecDepth 100000 in
theorem checkCounts_any (w : World) (g : Nat) (c : List Nat) (hl : c.length = 9) (hn : Nums w g (intsA c)) (hle : ∀ x ∈ c, x ≤ 2147483647) :
    Calls Tryd.prog 49 #[.slice (some ⟨g, 0, none⟩) 9 9] w fun e w' => Below w.heap.size w w' ∧ ((badC c = true ∧ e = pan 0 41) ∨ (badC c = false ∧ e = .returned (.tuple #[]))) := by
  have HL := Lib.hid hl
  have HN := Lib.hid hn
  have HLE := Lib.hid hle
  have HGU := Lib.hid (fun (wx : World) => giveUp_any wx 0 41)
  have HB0 := Lib.hid (Below.refl w.heap.size w)
  obtain ⟨bc, hbc⟩ : ∃ x, badC c = x := ⟨_, rfl⟩
  have HBC := Lib.hid hbc
  rw [hbc]
  clear hl hn hle hbc
  go_enter Tryd.func49, Tryd.ntmps49
  go_wp2
  go_loopg [7] 9 (fun j iv wx => ∃ k : Nat, k ≤ 9 ∧ j = 9 - k ∧ iv = .int .i64 k ∧ wx = w ∧ (c.take k).any (fun n => decide (16384 < n)) = false)
  case atStart => exact ⟨0, Nat.zero_le _, rfl, rfl, rfl, rfl⟩
  case round =>
    obtain ⟨k, hk, hgk, rfl, hw, hal⟩ := hrel
    subst hgk
    obtain ⟨W3, hW3⟩ : ∃ W3, wr = W3 := ⟨_, rfl⟩
    have HAL := Lib.hid hal
    rw [hw]
    clear hal hw hW3
    by_cases hkn : k < 9
    · obtain ⟨x, hx⟩ : ∃ x, c[k]? = some x := ⟨_, List.getElem?_eq_getElem (by rw [HL.out]; exact hkn)⟩
      have c1 : w.cell? ⟨g, k, none⟩ = some (.int .i64 (x : Int)) := HN.out.cell (by simp [intsA, hx])
      have hk0 : (0 : Int) ≤ (k : Int) := by omega
      have hk1 : (k : Int) < 9 := by omega
      have hx31 := HLE.out x (List.mem_of_getElem? hx)
      have htk : c.take (k + 1) = c.take k ++ [x] := take_more' hx
      by_cases hbig : 16384 < x
      · have hbI : (16384 : Int) < (x : Int) := by omega
        have HE : Hid (bc = true) := Lib.hid (by
          rw [← HBC.out]
          unfold badC
          rw [Bool.or_eq_true]
          left
          rw [List.any_eq_true]
          exact ⟨x, List.mem_of_getElem? hx, by simpa using hbig⟩)
        clear hx htk
        by_cases hkz : k = 0
        · subst hkz
          go_wp2_with (go_at_call 27; refine (HGU.out _).mono ?_; rintro e w6 ⟨rfl, rfl⟩)
          exact ⟨rfl, HB0.out, .inl ⟨HE.out, rfl⟩⟩
        · have hkzI : ¬ ((k : Int) = 0) := by omega
          clear hkz
          go_wp2_with (go_at_call 27; refine (HGU.out _).mono ?_; rintro e w6 ⟨rfl, rfl⟩)
          exact ⟨rfl, HB0.out, .inl ⟨HE.out, rfl⟩⟩
      · have hbI : (x : Int) ≤ 16384 := by omega
        have HAL2 : Hid ((c.take (k + 1)).any (fun n => decide (16384 < n)) = false) := Lib.hid (by rw [htk, List.any_append, HAL.out]; simp; omega)
        clear hx htk
        by_cases hkz : k = 0
        · subst hkz
          go_wp2
          go_roundg (9 - (0 + 1))
          case measure => omega
          case rel => first
            | exact ⟨0 + 1, by omega, rfl, by go_num, rfl, HAL2.out⟩
            | ((repeat apply Exists.intro); exact ⟨⟨0 + 1, by omega, rfl, by go_num, rfl, HAL2.out⟩, rfl⟩)
        · have hkzI : ¬ ((k : Int) = 0) := by omega
          clear hkz
          go_wp2
          go_roundg (9 - (k + 1))
          case measure => omega
          case rel => first
            | exact ⟨k + 1, by omega, rfl, by go_num, rfl, HAL2.out⟩
            | ((repeat apply Exists.intro); exact ⟨⟨k + 1, by omega, rfl, by go_num, rfl, HAL2.out⟩, rfl⟩)
    · have hke : k = 9 := by omega
      subst hke
      have hall : c.any (fun n => decide (16384 < n)) = false := by
        have h9 := HAL.out
        rwa [List.take_of_length_le (by rw [HL.out]; exact Nat.le_refl _)] at h9
      obtain ⟨m, n1, n2, n3, n4, n5, n6, n7, n8, rfl⟩ : ∃ a0 a1 a2 a3 a4 a5 a6 a7 a8, c = [a0, a1, a2, a3, a4, a5, a6, a7, a8] := by
        have h9 := HL.out
        match c with
        | [a0, a1, a2, a3, a4, a5, a6, a7, a8] => exact ⟨_, _, _, _, _, _, _, _, _, rfl⟩
      have HD : Hid (bc = decide (m < n1 + n2 + n4)) := Lib.hid (by rw [← HBC.out]; unfold badC; rw [hall]; simp)
      have hb : ∀ x ∈ [m, n1, n2, n3, n4, n5, n6, n7, n8], x ≤ 16384 := fun x hx => by
        rcases Nat.lt_or_ge 16384 x with h9 | h9
        · have h8 : ([m, n1, n2, n3, n4, n5, n6, n7, n8] : List Nat).any (fun n => decide (16384 < n)) = true := by
            rw [List.any_eq_true]
            exact ⟨x, hx, by simpa using h9⟩
          rw [hall] at h8
          cases h8
        · exact h9
      have b0 := hb m (by simp)
      have b1 := hb n1 (by simp)
      have b2 := hb n2 (by simp)
      have b4 := hb n4 (by simp)
      have d0 : w.drew.cell? ⟨g, 0, none⟩ = some (.int .i64 (m : Int)) := HN.out.cell (by simp [intsA])
      have d1 : w.drew.cell? ⟨g, 1, none⟩ = some (.int .i64 (n1 : Int)) := HN.out.cell (by simp [intsA])
      have d2 : w.drew.cell? ⟨g, 2, none⟩ = some (.int .i64 (n2 : Int)) := HN.out.cell (by simp [intsA])
      have d4 : w.drew.cell? ⟨g, 4, none⟩ = some (.int .i64 (n4 : Int)) := HN.out.cell (by simp [intsA])
      have w1 : IntKind.i64.wrap ((n1 : Int) + (n2 : Int)) = (n1 : Int) + (n2 : Int) := by rw [IntKind.wrap_i64]; omega
      have w2 : IntKind.i64.wrap ((n1 : Int) + (n2 : Int) + (n4 : Int)) = (n1 : Int) + (n2 : Int) + (n4 : Int) := by rw [IntKind.wrap_i64]; omega
      have HBD : Hid (Below w.heap.size w w.drew) := Lib.hid (Below.refl _ _).drew
      clear hall hb
      by_cases hs : m < n1 + n2 + n4
      · have hsI : (m : Int) < (n1 : Int) + (n2 : Int) + (n4 : Int) := by omega
        have HE : Hid (bc = true) := Lib.hid (by rw [HD.out]; simpa using hs)
        clear hs
        go_upto_region 9 with (fail)
        go_region
        go_wp2_with (go_at_call 27; refine (HGU.out _).mono ?_; rintro e w6 ⟨rfl, rfl⟩)
        exact ⟨rfl, HBD.out, .inl ⟨HE.out, rfl⟩⟩
      · have hsI : (n1 : Int) + (n2 : Int) + (n4 : Int) ≤ (m : Int) := by omega
        have HE : Hid (bc = false) := Lib.hid (by rw [HD.out]; simpa using hs)
        clear hs
        go_upto_region 9 with (fail)
        go_region
        go_wp2
        go_end0
        exact ⟨HBD.out, .inr ⟨HE.out, rfl⟩⟩
end Go.Proofs.YtkkolefhfmlhfabDoor
