/- The contract of checkComments: a line's end in a comment. -/
import Derived.Test.YtfbnhkndlohalaaSyms
namespace Go.Proofs.Ytfbnhkndlohalaa
open Go.RowKit

/-- Has a text a byte 10? -/
def hasNl (s : ByteArray) : Bool := decide (0 ≤ Lib.indexByte s.data.toList 10)
def commE (s : ByteArray) : Int := if hasNl s = true then 36 else 0
theorem commE_yes {s : ByteArray} (h : hasNl s = true) : commE s = 36 := if_pos h
theorem commE_no {s : ByteArray} (h : hasNl s = false) : commE s = 0 := by unfold commE; rw [h]; rfl
def commR (C : Circ) : Int × Int := firstE commE C.comments 0
theorem ret_pair {k k' : IntKind} {a b : Int} {r : Int × Int} (h : r = (a, b)) : Ending.returned (.tuple #[.int k a, .int k' b]) = .returned (.tuple #[.int k r.1, .int k' r.2]) := by rw [h]

set_option maxHeartbeats 1000000 in
set_option maxRecDepth 100000 in
theorem checkComments_any (w : World) (V : CV) (C : Circ) (h : C.In w V) :
    Calls Try.prog 57 #[V.val C.max] w fun e w' => e = .returned (.tuple #[.int .i64 (commR C).1, .int .i64 (commR C).2]) ∧ Below w.heap.size w w' := by
  have HB := Lib.hid ((Below.refl w.heap.size w).alloc (Nat.le_refl _) (.cells (V.cells C.max) 29))
  have hT := h.t.below ((Below.refl w.heap.size w).alloc (Nat.le_refl _) (.cells (V.cells C.max) 29))
  have hl := hT.len
  unfold maxLen at hl
  obtain ⟨A, c, eT, _, _, hrun⟩ := hT
  obtain ⟨Vi, Vl, Vo, Vb, Vc, Vj, Vf, Va, Vs, Vt⟩ := V
  simp only at eT
  subst eT
  have HRUN := Lib.hid hrun
  clear hrun h
  generalize hr : commR C = r
  have HR := Lib.hid hr
  clear hr
  unfold commR at HR
  generalize hn : C.comments.length = n at *
  have HN := Lib.hid hn
  clear hn
  go_enter Try.func57, Try.ntmps57
  go_wp2
  go_loop [9] (fun i => ∃ k : Nat, k ≤ n ∧ i = .int .i64 k ∧ firstE commE C.comments 0 = firstE commE (C.comments.drop k) k) (fun i => n - (intOf i).toNat)
  case atStart => exact ⟨0, Nat.zero_le _, rfl, rfl⟩
  case round =>
    obtain ⟨k, hk, rfl, hall⟩ := hrel
    have HA := Lib.hid hall
    clear hall
    by_cases hlt : k < n
    · have hx := List.getElem?_eq_getElem (l := C.comments) (i := k) (by rw [HN.out]; exact hlt)
      generalize C.comments[k]'(by rw [HN.out]; exact hlt) = x at hx
      obtain ⟨b, off, rfl, hb, hcell⟩ := HRUN.out k x hx
      have h0 := hcell 0 _ rfl
      simp only [Nat.add_zero, Nat.mul_one] at h0
      have HX := Lib.hid hx
      clear hx hcell
      have hcon := fun wx => Try.strings_Contains_one x 10 wx
      change ∀ wx, Calls Try.prog 75 _ wx fun e w' => e = .returned (.bool (hasNl x)) ∧ w' = wx at hcon
      cases hc : hasNl x
      · rw [hc] at hcon
        have HC := Lib.hid (commE_no hc)
        clear hc
        go_wp2_with (go_at_call 75; refine (hcon _).mono ?_; rintro e w' ⟨rfl, rfl⟩)
        go_round
        case rel => exact ⟨k + 1, by omega, by go_num, by rw [HA.out, firstE_step HX.out HC.out]⟩
        case measure => simp [intOf]; omega
      · rw [hc] at hcon
        have HC := Lib.hid (commE_yes hc)
        clear hc
        go_wp2_with (go_at_call 75; refine (hcon _).mono ?_; rintro e w' ⟨rfl, rfl⟩)
        go_ret2
        have hs := firstE_stop HX.out (f := commE) (by rw [HC.out]; decide)
        rw [HC.out] at hs
        exact ⟨ret_pair (HR.out.symm.trans (HA.out.trans hs)), HB.out⟩
    · have : k = n := by omega
      subst this
      go_wp2
      go_ret2
      exact ⟨ret_pair (HR.out.symm.trans (HA.out.trans (firstE_end (by rw [HN.out]; exact Nat.le_refl _)))), HB.out⟩
end Go.Proofs.Ytfbnhkndlohalaa
