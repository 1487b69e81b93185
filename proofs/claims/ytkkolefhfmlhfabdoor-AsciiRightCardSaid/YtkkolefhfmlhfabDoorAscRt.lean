/- AsciiRight: what it needs of Read. -/
import Derived.Test.YtkkolefhfmlhfabDoorAscHd
namespace Go.Proofs.YtkkolefhfmlhfabDoor
open Go.RowKit

theorem circA_place {s : Bs} {k : Nat × Int} (h : circA s = .error k) : k.1 ≤ s.length := by
  unfold circA at h
  by_cases hs : 262144 < s.length
  · rw [if_pos hs] at h; injection h with h; subst h; exact Nat.zero_le _
  · rw [if_neg hs] at h
    cases hq : headA s with
    | error e => rw [hq] at h; injection h with h; subst h; exact Nat.zero_le _
    | ok y =>
      obtain ⟨wd, c, r⟩ := y
      rw [hq] at h
      simp only at h
      split at h
      · injection h with h; subst h; exact Nat.zero_le _
      · cases hb : bodyA c r with
        | error k => rw [hb] at h; injection h with h; subst h; exact Nat.sub_le _ _
        | ok y =>
          obtain ⟨C', r1⟩ := y
          rw [hb] at h
          simp only at h
          cases ht : tailA r1.length r1 with
          | error k => rw [ht] at h; injection h with h; subst h; exact Nat.sub_le _ _
          | ok y => rw [ht] at h; cases h
theorem circA_head {s : Bs} {C : Circ} (h : circA s = .ok C) : ∃ m n1 n2 n3 n4 n5 n6 n7 n8 l r, headA s = .ok (aagW, [m, n1, n2, n3, n4, n5, n6, n7, n8], r) ∧ lineA s = some (l, r) ∧ C.max = (m : Int) ∧ C.inputs.length = n1 ∧ C.latches.length = n2 ∧ C.outputs.length = n3 ∧ C.ands.length = n4 ∧ C.bads.length = n5 ∧ C.constraints.length = n6 ∧ C.justice.length = n7 ∧ C.fairness.length = n8 := by
  unfold circA at h
  by_cases hs : 262144 < s.length
  · rw [if_pos hs] at h; cases h
  · rw [if_neg hs] at h
    cases hq : headA s with
    | error e => rw [hq] at h; cases h
    | ok y =>
      obtain ⟨wd, c, r⟩ := y
      rw [hq] at h
      simp only at h
      obtain ⟨⟨l, hl⟩, _, h9, hbad⟩ := head_inv hq
      obtain ⟨m, n1, n2, n3, n4, n5, n6, n7, n8, rfl⟩ := nine_list h9
      have hle := badC_le hbad
      split at h
      · cases h
      · rename_i hw
        have hw2 : wd = aagW := Classical.not_not.1 hw
        subst hw2
        cases hb : bodyA [m, n1, n2, n3, n4, n5, n6, n7, n8] r with
        | error k => rw [hb] at h; cases h
        | ok y =>
          obtain ⟨C', r1⟩ := y
          rw [hb] at h
          simp only at h
          obtain ⟨i, lt, o, b, cc, j, f, a, rfl, _, ⟨e1, e2, e3, e4, e5, e6, e7, e8⟩, _⟩ := bodyA_ok hb (hle _ (by simp)) (hle _ (by simp)) (hle _ (by simp)) (hle _ (by simp)) (hle _ (by simp)) (hle _ (by simp)) (hle _ (by simp)) (hle _ (by simp))
          cases ht : tailA r1.length r1 with
          | error k => rw [ht] at h; cases h
          | ok y =>
            obtain ⟨ss, ls⟩ := y
            rw [ht] at h
            simp only at h
            injection h with h
            subst h
            exact ⟨m, n1, n2, n3, n4, n5, n6, n7, n8, l, r, rfl, hl, rfl, by simpa [intsA] using e1, by simpa using e2, by simpa [intsA] using e3, by simpa using e4, by simpa [intsA] using e5, by simpa [intsA] using e6, by simpa using e7, by simpa [intsA] using e8⟩
/-- A text that is none: what Read answers. -/
theorem Read_no (w : World) (B : Nat) (s : Bs) (hs : s.length ≤ 9223372036854775807) (lib : LibB B w) (hB : B ≤ w.heap.size) (hn : ¬ ReadsA s) :
    Calls Tryd.prog 16 #[.string (strB s)] w fun e w' => Below w.heap.size w w' ∧ ∃ (k : Nat) (x : Int), e = .returned (.tuple #[.agg circ0, flt (k : Int) x]) ∧ x ≠ 0 ∧ k ≤ s.length := by
  by_cases hl : 262144 < s.length
  · refine (Read_long w s hl hs).mono ?_
    rintro e w' ⟨hb, rfl⟩
    exact ⟨hb, 0, 2, rfl, by decide, Nat.zero_le _⟩
  · refine (Read_any w B s (by omega) lib hB).mono ?_
    rintro e w' ⟨hb, ha⟩
    refine ⟨hb, ?_⟩
    unfold ReadAns at ha
    cases hc : circA s with
    | error k =>
      rw [hc] at ha
      exact ⟨k.1, k.2, ha, circA_err hc, circA_place hc⟩
    | ok C =>
      rw [hc] at ha
      simp only at ha
      by_cases h0 : (checkR C).2 = 0
      · exact absurd ⟨C, hc, h0⟩ hn
      · exact ⟨0, (checkR C).2, ha.1 h0, h0, Nat.zero_le _⟩
/-- A text that is a circuit: what Read answers. -/
theorem Read_yes (w : World) (B : Nat) (s : Bs) (lib : LibB B w) (hB : B ≤ w.heap.size) (hy : ReadsA s) :
    ∃ m n1 n2 n3 n4 n5 n6 n7 n8 l r, headA s = .ok (aagW, [m, n1, n2, n3, n4, n5, n6, n7, n8], r) ∧ lineA s = some (l, r) ∧
    Calls Tryd.prog 16 #[.string (strB s)] w fun e w' => Below w.heap.size w w' ∧ ∃ g1 g2 g3 g4 g5 g6 g7 g8 As ms cs At mt ct, e = .returned (.tuple #[.agg #[.int .i64 (m : Int), .slice (some ⟨g1, 0, none⟩) n1 n1, .slice (some ⟨g2, 0, none⟩) n2 n2, .slice (some ⟨g3, 0, none⟩) n3 n3, .slice (some ⟨g5, 0, none⟩) n5 n5, .slice (some ⟨g6, 0, none⟩) n6 n6, .slice (some ⟨g7, 0, none⟩) n7 n7, .slice (some ⟨g8, 0, none⟩) n8 n8, .slice (some ⟨g4, 0, none⟩) n4 n4, .slice As ms cs, .slice At mt ct], flt 0 0]) ∧
      ∀ wx, Below w'.heap.size w' wx → Calls Tryd.prog 17 #[.agg #[.int .i64 (m : Int), .slice (some ⟨g1, 0, none⟩) n1 n1, .slice (some ⟨g2, 0, none⟩) n2 n2, .slice (some ⟨g3, 0, none⟩) n3 n3, .slice (some ⟨g5, 0, none⟩) n5 n5, .slice (some ⟨g6, 0, none⟩) n6 n6, .slice (some ⟨g7, 0, none⟩) n7 n7, .slice (some ⟨g8, 0, none⟩) n8 n8, .slice (some ⟨g4, 0, none⟩) n4 n4, .slice As ms cs, .slice At mt ct]] wx fun e wy => (∃ x1, e = .returned (.tuple #[.int .i64 x1, .int .i64 0])) ∧ Below wx.heap.size wx wy := by
  obtain ⟨C, hc, h0⟩ := hy
  have hle := (circA_end hc).2.2
  obtain ⟨m, n1, n2, n3, n4, n5, n6, n7, n8, l, r, hh, hl, hm, e1, e2, e3, e4, e5, e6, e7, e8⟩ := circA_head hc
  refine ⟨m, n1, n2, n3, n4, n5, n6, n7, n8, l, r, hh, hl, ?_⟩
  refine (Read_any w B s hle lib hB).mono ?_
  rintro e w' ⟨hb, ha⟩
  refine ⟨hb, ?_⟩
  unfold ReadAns at ha
  rw [hc] at ha
  simp only at ha
  obtain ⟨V, rfl, hr⟩ := ha.2 h0
  have hck := fun (wx : World) (hx : Below w'.heap.size w' wx) => Check_any wx V C (hr.in_.below hx) hr.ok
  obtain ⟨m0, i, lt, o, b, c, j, f, a, ss, ls, V0, rfl, _, fit, _, hM, hs, ht, hv⟩ := hr
  obtain ⟨⟨g1, a1, _⟩, ⟨g2, a2, _⟩, ⟨g3, a3, _⟩, ⟨g5, a5, _⟩, ⟨g6, a6, _⟩, ⟨g7, gs, a7, _⟩, ⟨g8, a8, _⟩, ⟨g4, a4, _⟩, _, _⟩ := hM
  obtain ⟨As, cs, q1⟩ := own_sliceA hs
  obtain ⟨At, ct, q2⟩ := own_sliceA ht
  have hlen : i.length = n1 ∧ lt.length = n2 ∧ o.length = n3 ∧ a.length = n4 ∧ b.length = n5 ∧ c.length = n6 ∧ j.length = n7 ∧ f.length = n8 :=
    ⟨by simpa [circR, intsA] using e1, by simpa [circR] using e2, by simpa [circR, intsA] using e3, by simpa [circR] using e4, by simpa [circR, intsA] using e5, by simpa [circR, intsA] using e6, by simpa [circR] using e7, by simpa [circR, intsA] using e8⟩
  obtain ⟨l1, l2, l3, l4, l5, l6, l7, l8⟩ := hlen
  rw [l1] at a1
  rw [l2] at a2
  rw [l3] at a3
  rw [l4] at a4
  rw [l5] at a5
  rw [l6] at a6
  rw [l7] at a7
  rw [l8] at a8
  have hV : V = ⟨.slice (some ⟨g1, 0, none⟩) n1 n1, .slice (some ⟨g2, 0, none⟩) n2 n2, .slice (some ⟨g3, 0, none⟩) n3 n3, .slice (some ⟨g5, 0, none⟩) n5 n5, .slice (some ⟨g6, 0, none⟩) n6 n6, .slice (some ⟨g7, 0, none⟩) n7 n7, .slice (some ⟨g8, 0, none⟩) n8 n8, .slice (some ⟨g4, 0, none⟩) n4 n4, .slice As ss.length cs, .slice At ls.length ct⟩ := by
    rw [← a1, ← a2, ← a3, ← a4, ← a5, ← a6, ← a7, ← a8, ← q1, ← q2]
    exact hv
  rw [hm, hV] at hck
  rw [hm, hV]
  refine ⟨g1, g2, g3, g4, g5, g6, g7, g8, As, ss.length, cs, At, ls.length, ct, rfl, fun wx hx => ?_⟩
  have h9 := hck wx hx
  rw [h0] at h9
  exact h9.mono (fun e wy hy => ⟨⟨_, hy.1⟩, hy.2⟩)
end Go.Proofs.YtkkolefhfmlhfabDoor
