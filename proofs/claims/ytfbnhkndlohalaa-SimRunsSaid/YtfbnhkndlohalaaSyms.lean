/- The contracts of what looks at symbols and comments: how many things of a kind there are, a symbol's name, a comment's bytes. -/
import Derived.Test.YtfbnhkndlohalaaTable
import Derived.Test.YtfbnhkndlohalaaSizes
import Derived.Test.YtfbnhkndlohalaaCont
namespace Go.Proofs.Ytfbnhkndlohalaa
open Go.RowKit

/-- How many things of a symbol's kind there are. -/
def countF (C : Circ) (k : Int) : Int :=
  if k = 105 then C.inputs.length else if k = 108 then C.latches.length else if k = 111 then C.outputs.length else if k = 98 then C.bads.length else
  if k = 99 then C.constraints.length else if k = 106 then C.justice.length else if k = 102 then C.fairness.length else 0

theorem len_form {E : Type} {k : Nat} {enc : E → List Value} {w : World} {v : Value} {zs : List E} (h : RowE k enc w v zs) : ∃ A c, v = .slice A zs.length c ∧ zs.length ≤ maxLen := by
  have hl := h.len
  obtain ⟨A, c, e, _⟩ := h
  exact ⟨A, c, e, hl⟩
theorem countF_bd {C : Circ} {w : World} {V : CV} (_h : C.In w V) (k : Int) : 0 ≤ countF C k := by
  unfold countF
  split
  · omega
  · split
    · omega
    · split
      · omega
      · split
        · omega
        · split
          · omega
          · split
            · omega
            · split <;> omega

set_option maxHeartbeats 2000000 in
set_option maxRecDepth 100000 in
theorem countOf_any (w : World) (V : CV) (C : Circ) (k : Int) (h : C.In w V) :
    Calls Try.prog 73 #[V.val C.max, .int .u8 k] w fun e w' => e = .returned (.int .i64 (countF C k)) ∧ w' = w.alloc (.cells (V.cells C.max) 29) := by
  obtain ⟨Ai, ci, ei, hi2⟩ := len_form h.i
  obtain ⟨Al, cl, el, hl2⟩ := len_form h.l
  obtain ⟨Ao, co, eo, ho2⟩ := len_form h.o
  obtain ⟨Ab, cb, eb, hb2⟩ := len_form h.b
  obtain ⟨Ac, cc, ec, hc2⟩ := len_form h.c
  obtain ⟨Aj, cj, ej, hj2, _⟩ := h.j.at_
  obtain ⟨Af, cf, ef, hf2⟩ := len_form h.f
  obtain ⟨Vi, Vl, Vo, Vb, Vc, Vj, Vf, Va, Vs, Vt⟩ := V
  simp only at ei el eo eb ec ej ef
  subst ei el eo eb ec ej ef
  clear h
  unfold maxLen at *
  have hx : k = 105 ∨ k = 108 ∨ k = 111 ∨ k = 98 ∨ k = 99 ∨ k = 106 ∨ k = 102 ∨ (k ≠ 105 ∧ k ≠ 108 ∧ k ≠ 111 ∧ k ≠ 98 ∧ k ≠ 99 ∧ k ≠ 106 ∧ k ≠ 102) := by omega
  rcases hx with rfl | rfl | rfl | rfl | rfl | rfl | rfl | ⟨h1, h2, h3, h4, h5, h6, h7⟩
  case inr.inr.inr.inr.inr.inr.inr =>
    have e : countF C k = 0 := by unfold countF; rw [if_neg h1, if_neg h2, if_neg h3, if_neg h4, if_neg h5, if_neg h6, if_neg h7]
    rw [e]
    have g1 : (k == 105) = false := by simpa using h1
    have g2 : (k == 108) = false := by simpa using h2
    have g3 : (k == 111) = false := by simpa using h3
    have g4 : (k == 98) = false := by simpa using h4
    have g5 : (k == 99) = false := by simpa using h5
    have g6 : (k == 106) = false := by simpa using h6
    have g7 : (k == 102) = false := by simpa using h7
    clear h1 h2 h3 h4 h5 h6 h7 e
    go_enter Try.func73, Try.ntmps73
    go_wp2
    go_ret
    exact ⟨rfl, rfl⟩
  all_goals
    simp only [countF]
    go_enter Try.func73, Try.ntmps73
    go_wp2
    go_ret
    exact ⟨by simp, rfl⟩

/-- May a symbol have that name? -/
def nameB (s : ByteArray) : Bool := decide (1 ≤ s.size ∧ s.size ≤ 64) && s.data.toList.all fun b => decide (32 ≤ b.toNat)
theorem nameB_no {s : ByteArray} (h : ¬ (1 ≤ s.size ∧ s.size ≤ 64)) : nameB s = false := by simp [nameB, h]
theorem nameB_low {s : ByteArray} {k : Nat} (hk : k < s.size) (h : s[k].toNat < 32) : nameB s = false := by
  have : s.data.toList.all (fun b => decide (32 ≤ b.toNat)) = false := by
    rw [List.all_eq_false]
    have hk' : k < s.data.toList.length := by rw [Array.length_toList]; exact hk
    exact ⟨s.data.toList[k], List.getElem_mem hk', by rw [show s.data.toList[k] = s[k] from rfl]; simpa using h⟩
  unfold nameB; rw [this]; simp
theorem nameB_ok {s : ByteArray} (h : 1 ≤ s.size ∧ s.size ≤ 64) (ha : (s.data.toList.take s.size).all (fun b => decide (32 ≤ b.toNat)) = true) : nameB s = true := by
  have e : s.data.toList.take s.size = s.data.toList := List.take_of_length_le (by rw [Array.length_toList]; exact Nat.le_refl _)
  rw [e] at ha
  unfold nameB; rw [ha]; simp [h]
theorem all_snoc {s : ByteArray} {k : Nat} (hk : k < s.size) (ha : (s.data.toList.take k).all (fun b => decide (32 ≤ b.toNat)) = true) (h : 32 ≤ s[k].toNat) : (s.data.toList.take (k + 1)).all (fun b => decide (32 ≤ b.toNat)) = true := by
  have hk' : k < s.data.toList.length := by rw [Array.length_toList]; exact hk
  rw [List.take_succ_eq_append_getElem hk', List.all_append, ha]
  have e : s.data.toList[k] = s[k] := rfl
  rw [e]; simpa using h

set_option maxHeartbeats 1000000 in
theorem isName_any (w : World) (s : ByteArray) (hs : s.size ≤ maxLen) :
    Calls Try.prog 74 #[.string s] w fun e w' => e = .returned (.bool (nameB s)) ∧ w = w' := by
  unfold maxLen at hs
  by_cases hn : 1 ≤ s.size ∧ s.size ≤ 64
  · have HN := Lib.hid hn
    obtain ⟨h1, h2⟩ := hn
    generalize hr : nameB s = r
    have HR := Lib.hid hr
    clear hr
    go_enter Try.func74, Try.ntmps74
    go_wp2
    go_loop [14] (fun i => ∃ k : Nat, k ≤ s.size ∧ i = .int .i64 k ∧ (s.data.toList.take k).all (fun b => decide (32 ≤ b.toNat)) = true) (fun i => s.size - (intOf i).toNat)
    case atStart => exact ⟨0, Nat.zero_le _, rfl, by simp⟩
    case round =>
      obtain ⟨k, hk, rfl, hall⟩ := hrel
      have HA := Lib.hid hall
      clear hall
      by_cases hlt : k < s.size
      · by_cases hl : s[k].toNat < 32
        · have hl' : (s[k].toNat : Int) < 32 := by omega
          have HL := Lib.hid (nameB_low hlt hl)
          clear hl
          go_wp2
          go_ret
          exact ⟨ret_bool (by rw [← HR.out]; exact HL.out.symm), rfl⟩
        · have hl' : ¬ (s[k].toNat : Int) < 32 := by omega
          have HL := Lib.hid (all_snoc hlt HA.out (by omega))
          clear hl
          go_wp2
          go_round
          case rel => exact ⟨k + 1, by omega, by go_num, HL.out⟩
          case measure => simp [intOf]; omega
      · have : k = s.size := by omega
        subst this
        go_wp2
        go_ret
        exact ⟨ret_bool (by rw [← HR.out]; exact (nameB_ok HN.out HA.out).symm), rfl⟩
  · rw [nameB_no hn]
    have hx : s.size < 1 ∨ 64 < s.size := by omega
    have HN := Lib.hid hn
    clear hn
    rcases hx with hx | hx
    all_goals
      go_enter Try.func74, Try.ntmps74
      go_wp2
      go_ret
      exact ⟨rfl, rfl⟩
end Go.Proofs.Ytfbnhkndlohalaa
