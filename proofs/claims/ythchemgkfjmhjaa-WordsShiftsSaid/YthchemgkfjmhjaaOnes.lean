/- The library's OnesCount64 and the program's Ones: how many bits are 1. -/
import Derived.Test.YthchemgkfjmhjaaPop
import Derived.Test.YthchemgkfjmhjaaCheck
namespace Go.Proofs.Ythchemgkfjmhjaa
open Go.RowKit

theorem ret_int {k : IntKind} {a b : Int} (h : a = b) : Ending.returned (.int k a) = .returned (.int k b) := by rw [h]
theorem and_int (a : Int) (n m : Nat) (ha : a = (n : Int)) (hn : n < 18446744073709551616) (hm : m < 18446744073709551616) : bits .and .u64 a (m : Int) = ((n &&& m : Nat) : Int) := by
  subst ha; exact bits_and_u64_nat _ _ hn hm

set_option maxHeartbeats 1000000 in
theorem OnesCount64_any (x : Nat) (w : World) (hx : x < 2 ^ 64) : Calls Try.prog 46 #[.int .u64 (x : Int)] w fun e w' => e = .returned (.int .i64 ((pop x : Nat) : Int)) ∧ w = w' := by
  have hx : x < 18446744073709551616 := hx
  have r1 : rep 85 8 = 6148914691236517205 := by decide
  have r2 : rep 51 8 = 3689348814741910323 := by decide
  have r3 : rep 15 8 = 1085102592571150095 := by decide
  have hb := bytes_all 8 x
  obtain ⟨p1, p2⟩ := pop_all hx
  rw [← hb] at p1 p2
  unfold f3 f2 f1 at p1 p2
  rw [r1, r2, r3] at p1 p2
  have a1 := and_int ((x : Int) / 2) (x / 2) 6148914691236517205 (by omega) (by omega) (by omega)
  have a2 := and_int (x : Int) x 6148914691236517205 rfl hx (by omega)
  have l1 : x / 2 &&& 6148914691236517205 ≤ 6148914691236517205 := Nat.and_le_right
  have l2 : x &&& 6148914691236517205 ≤ 6148914691236517205 := Nat.and_le_right
  generalize x / 2 &&& 6148914691236517205 = A1 at *
  generalize x &&& 6148914691236517205 = A2 at *
  have a3 := and_int (((A1 : Int) + A2) / 4) ((A1 + A2) / 4) 3689348814741910323 (by omega) (by omega) (by omega)
  have a4 := and_int ((A1 : Int) + A2) (A1 + A2) 3689348814741910323 (by omega) (by omega) (by omega)
  have l3 : (A1 + A2) / 4 &&& 3689348814741910323 ≤ 3689348814741910323 := Nat.and_le_right
  have l4 : (A1 + A2) &&& 3689348814741910323 ≤ 3689348814741910323 := Nat.and_le_right
  generalize (A1 + A2) / 4 &&& 3689348814741910323 = A3 at *
  generalize (A1 + A2) &&& 3689348814741910323 = A4 at *
  have a5 := and_int (((A3 : Int) + A4) / 16 + ((A3 : Int) + A4)) ((A3 + A4) / 16 + (A3 + A4)) 1085102592571150095 (by omega) (by omega) (by omega)
  generalize ((A3 + A4) / 16 + (A3 + A4)) &&& 1085102592571150095 = A5 at *
  unfold s3 s2 s1 at p2
  have l1' : (A1 : Int) ≤ 6148914691236517205 := by omega
  have l2' : (A2 : Int) ≤ 6148914691236517205 := by omega
  have l3' : (A3 : Int) ≤ 3689348814741910323 := by omega
  have l4' : (A4 : Int) ≤ 3689348814741910323 := by omega
  have p1' : (A5 : Int) ≤ 578721382704613384 := by omega
  have hx' : (x : Int) ≤ 18446744073709551615 := by omega
  have a1 : bits .and .u64 ((x : Int) / 2) 6148914691236517205 = (A1 : Int) := a1
  have a2 : bits .and .u64 (x : Int) 6148914691236517205 = (A2 : Int) := a2
  have a3 : bits .and .u64 (((A1 : Int) + A2) / 4) 3689348814741910323 = (A3 : Int) := a3
  have a4 : bits .and .u64 ((A1 : Int) + A2) 3689348814741910323 = (A4 : Int) := a4
  have a5 : bits .and .u64 (((A3 : Int) + A4) / 16 + ((A3 : Int) + A4)) 1085102592571150095 = (A5 : Int) := a5
  generalize hpx : pop x = P at p2
  have HP := Lib.hid hpx
  have HP2 := Lib.hid p2
  clear hb hx r1 r2 r3 l1 l2 l3 l4 p1 p2 hpx
  go_enter Try.func46, Try.ntmps46
  go_wp2
  go_ret
  exact ⟨ret_int (by rw [i64_and127]; have := HP2.out; omega), rfl⟩

theorem pops_next {ws : List Nat} {k : Nat} (hk : k < ws.length) : pops (ws.take (k + 1)) = pops (ws.take k) + pop (ws.getD k 0) := by
  unfold pops
  rw [List.take_succ_eq_append_getElem hk]
  simp only [List.map_append, List.sum_append, List.map_cons, List.map_nil, List.sum_cons, List.sum_nil, List.getD]
  rw [List.getElem?_eq_getElem hk]; rfl
theorem pops_le {ws : List Nat} (hw : ∀ x ∈ ws, x < 2 ^ 64) : pops ws ≤ 64 * ws.length := by
  induction ws with
  | nil => simp [pops]
  | cons x ws ih =>
    have h1 := pop_le 64 x (hw x (by simp))
    have h2 := ih (fun y hy => hw y (by simp [hy]))
    unfold pops at h2 ⊢
    simp only [List.map_cons, List.sum_cons, List.length_cons]
    omega

set_option maxHeartbeats 1000000 in
theorem Ones_any (w : World) (v : Value) (ws : List Nat) (h : Row w v (wds ws)) (hw : ∀ x ∈ ws, x < 2 ^ 64) (hl8 : ws.length * 8 ≤ 140737488351232) : Calls Try.prog 27 #[v] w fun e w' => e = .returned (.int .i64 ((pops ws : Nat) : Int)) ∧ w = w' := by
  have hlen := h.len
  rw [List.length_map] at hlen
  unfold maxLen at hlen
  obtain ⟨A, c, rfl, h1, h2, h3⟩ := h
  rw [List.length_map]
  have HC := Lib.hid h3
  have HW := Lib.hid hw
  clear h3 h1 h2 hw
  go_enter Try.func27, Try.ntmps27
  go_wp2
  go_loop [3, 8] (fun q i => ∃ k y : Nat, k ≤ ws.length ∧ i = .int .i64 k ∧ q = .int .i64 y ∧ y = pops (ws.take k)) (fun q i => ws.length - (intOf i).toNat)
  case atStart => exact ⟨0, 0, by omega, rfl, rfl, by simp [pops]⟩
  case round =>
    obtain ⟨k, y, hk, rfl, rfl, hy⟩ := hrel
    have hyl : y ≤ 64 * ws.length := by
      have := pops_le (ws := ws.take k) (fun x hx => HW.out x (List.mem_of_mem_take hx))
      rw [List.length_take] at this; omega
    have hyi : (y : Int) ≤ 9007199254740992 := by omega
    have HY := Lib.hid hy
    clear hy
    by_cases hlt : k < ws.length
    · obtain ⟨b, off, rfl, hb, hcell⟩ := HC.out.word k hlt
      have hx : ws.getD k 0 < 2 ^ 64 := by
        have : ws.getD k 0 ∈ ws := by simp [List.getD, hlt]
        exact HW.out _ this
      have hnx := pops_next hlt
      rw [← HY.out] at hnx
      have hone := fun wx => OnesCount64_any (ws.getD k 0) wx hx
      have hp64 := pop_le 64 _ hx
      generalize ws.getD k 0 = x at hcell hone hnx hp64
      generalize pop x = z at hone hnx hp64
      have hz : (z : Int) ≤ 64 := by omega
      have HNX := Lib.hid hnx
      clear hnx hx hp64 hyl
      go_wp2_with (go_at_call 46; refine (hone _).mono ?_; rintro e w' ⟨rfl, rfl⟩)
      go_round
      case rel => exact ⟨k + 1, y + z, by omega, by go_num, by go_num, by rw [HNX.out]⟩
      case measure => simp [intOf]; omega
    · have : k = ws.length := by omega
      subst this
      go_wp2
      go_ret
      exact ⟨ret_int (by rw [HY.out, List.take_length]), rfl⟩
end Go.Proofs.Ythchemgkfjmhjaa
