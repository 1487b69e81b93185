/- Tern: the contract of the call Lit: the program's and the document's. -/
import Derived.Test.YtbeaicmjohlboabDoorTrnB
namespace Go.Proofs.YtbeaicmjohlboabDoor
open Go.RowKit

/-- What is wrong with a literal's value. -/
def litE (T : List Int) (l : Int) : Int := if 32768 < T.length then 2 else if l < 0 ∨ (T.length : Int) ≤ l / 2 then 1 else if ok3 (T.getD (l / 2).toNat 0) then 0 else 80
def litX (T : List Int) (l : Int) : Int := if litE T l = 0 then lit3 T l else 0

set_option maxHeartbeats 4000000 in
set_option maxRecDepth 100000 in
theorem tLit_any (w : World) (v : Value) (T : List Int) (l : Int) (htc : TabC w) (hv : RowE 1 encI w v T) (hl0 : -9223372036854775808 ≤ l) (hl1 : l ≤ 9223372036854775807) :
    Calls Tryd.prog 7 #[v, .int .i64 l] w fun e w' => e = .returned (.tuple #[.int .i64 (litX T l), .int .i64 (litE T l)]) ∧ w' = w := by
  have hlen := hv.len
  have HV := Lib.hid hv
  obtain ⟨vA, vc, ev, _⟩ := hv
  subst ev
  by_cases h1 : 32768 < T.length
  · have hE : litE T l = 2 := by unfold litE; rw [if_pos h1]
    have hX : litX T l = 0 := by unfold litX; rw [hE]; rfl
    rw [hE, hX]
    have h1i : (32768 : Int) < (T.length : Int) := by omega
    generalize T.length = n at *
    clear hE hX hl0 hl1
    go_enter Tryd.func7, Tryd.ntmps7
    go_wp2
    go_ret2
    exact ⟨rfl, rfl⟩
  · have h1i : ¬ (32768 : Int) < (T.length : Int) := by omega
    by_cases h2 : l < 0
    · have hE : litE T l = 1 := by unfold litE; rw [if_neg h1, if_pos (.inl h2)]
      have hX : litX T l = 0 := by unfold litX; rw [hE]; rfl
      rw [hE, hX]
      generalize T.length = n at *
      clear hE hX
      go_enter Tryd.func7, Tryd.ntmps7
      go_wp2
      go_ret2
      exact ⟨rfl, rfl⟩
    · have h20 : 0 ≤ l := by omega
      have hq2 := tdiv_nn (b := 2) h20
      have hq3 : 0 ≤ l / 2 := by omega
      have hq4 : IntKind.i64.wrap (l / 2) = l / 2 := by simp [IntKind.wrap, IntKind.bits, IntKind.signed]; omega
      by_cases h3 : (T.length : Int) ≤ l / 2
      · have hE : litE T l = 1 := by unfold litE; rw [if_neg h1, if_pos (.inr h3)]
        have hX : litX T l = 0 := by unfold litX; rw [hE]; rfl
        rw [hE, hX]
        generalize T.length = n at *
        clear hE hX
        go_enter Tryd.func7, Tryd.ntmps7
        go_wp2
        go_ret2
        exact ⟨rfl, rfl⟩
      · have h3i : l / 2 < (T.length : Int) := by omega
        obtain ⟨vb, voff, vc2, ev, hvc⟩ := lit3_cell HV.out h20 h3i
        injection ev with e1 e2 e3
        clear e2
        subst e1 e3
        obtain ⟨x, hx⟩ : ∃ x, T.getD (l / 2).toNat 0 = x := ⟨_, rfl⟩
        rw [hx] at hvc
        by_cases h4 : ok3 x = true
        · have hE : litE T l = 0 := by unfold litE; rw [if_neg h1, if_neg (by omega), hx, if_pos h4]
          have hX : litX T l = lit3 T l := by unfold litX; rw [if_pos hE]
          rw [hE, hX]
          have HVAL := Lib.hid (valueOf_any w _ T l htc HV.out (by rw [hx]; exact ok3_v.1 h4) h20 h3i (by omega))
          have HOK := Lib.hid h4
          have hx01 : 0 ≤ x ∧ x ≤ 2 := by
            have h9 := h4
            unfold ok3 at h9
            simpa using h9
          have hxa : ¬ x < 0 := by omega
          have hxb : ¬ 2 < x := by omega
          have HIS := Lib.hid (fun (wx : World) => isValue_any wx x)
          rw [h4] at HIS
          generalize lit3 T l = lx at *
          generalize T.length = n at *
          clear hE hX hx h4 hx01
          go_enter Tryd.func7, Tryd.ntmps7
          go_wp2_with (first
            | (go_at_call 16; refine (HIS.out _).mono ?_; rintro e w5 ⟨rfl, rfl⟩)
            | (go_at_call 17; refine HVAL.out.mono ?_; rintro e w5 ⟨rfl, rfl⟩))
          go_ret2
          exact ⟨rfl, rfl⟩
        · have hE : litE T l = 80 := by unfold litE; rw [if_neg h1, if_neg (by omega), hx, if_neg h4]
          have hX : litX T l = 0 := by unfold litX; rw [hE]; rfl
          rw [hE, hX]
          have h4f : ok3 x = false := by simpa using h4
          have HIS := Lib.hid (fun (wx : World) => isValue_any wx x)
          rw [h4f] at HIS
          have hx01 : x < 0 ∨ 2 < x := by
            have h9 := h4f
            unfold ok3 at h9
            simp only [Bool.and_eq_false_iff, decide_eq_false_iff_not] at h9
            omega
          generalize T.length = n at *
          clear hE hX hx h4 h4f
          go_enter Tryd.func7, Tryd.ntmps7
          go_wp2_with (go_at_call 16; refine (HIS.out _).mono ?_; rintro e w5 ⟨rfl, rfl⟩)
          go_ret2
          exact ⟨rfl, rfl⟩

end Go.Proofs.YtbeaicmjohlboabDoor
