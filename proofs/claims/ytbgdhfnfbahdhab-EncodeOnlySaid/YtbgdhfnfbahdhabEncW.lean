/- Encode: the statements' own example: trestlelaw15.works answers true in whatever world. -/
import Derived.Test.YtbgdhfnfbahdhabEncE
namespace Go.Proofs.Ytbgdhfnfbahdhab
open Go.RowKit

def exE : Circ := { max := 3, inputs := [2, 4], latches := [], outputs := [], bads := [], constraints := [], justice := [], fairness := [], ands := [(6, 2, 4)], symbols := [], comments := [] }
def exEV (a b : Nat) : CV := ⟨.slice (some ⟨a, 0, none⟩) 2 2, .slice none 0 0, .slice none 0 0, .slice none 0 0, .slice none 0 0, .slice none 0 0, .slice none 0 0, .slice (some ⟨b, 0, none⟩) 1 1, .slice none 0 0, .slice none 0 0⟩
theorem rowe_nilE {E : Type} {k : Nat} {enc : E → List Value} {w : World} {A : Option Addr} : RowE k enc w (.slice A 0 0) ([] : List E) := RowE.nil w A 0 (by simp [maxLen])
theorem lists_nilE {w : World} : Lists w (.slice none 0 0) [] := ⟨[], rowe_nilE, rfl, fun i u zs hu _ => by simp at hu⟩
theorem exE_in {w : World} {a b : Nat} (h1 : Blk w a 3 #[.int .i64 2, .int .i64 4]) (h2 : Blk w b 45 #[.int .i64 6, .int .i64 2, .int .i64 4]) : exE.In w (exEV a b) :=
  ⟨blk_roweE (zs := ([2, 4] : List Int)) lenI h1 (by simp [maxLen]), rowe_nilE, rowe_nilE, rowe_nilE, rowe_nilE, lists_nilE, rowe_nilE, blk_roweE (zs := ([(6, 2, 4)] : List Tri)) lenT h2 (by simp [maxLen]), rowe_nilE, rowe_nilE⟩
theorem exE_ok : exE.Ok := by
  refine ⟨?_, ?_, ?_, ?_, ?_, ?_, ?_, ?_, ?_, ?_, ?_⟩ <;> simp [exE, I64, I64T]
theorem exE_check : checkR exE = (0, 0) := by decide +kernel
theorem exE_gates : gatesF exE = [[-1], [-4, 2], [-4, 3], [4, -2, -3]] := by decide +kernel
theorem exE_vars : varsF exE = 4 := by decide +kernel
theorem exE_fit : fitE exE [] [true, true] = 0 := by decide +kernel
theorem exE_val {O : List Int} (h : IsOrd exE O) : valA exE O [] [true, true] = [false, true, true, true] := by
  have hl := h.l
  have hr := h.inR
  match O, hl with
  | [x], _ =>
    have := hr x (by simp)
    have e : x = 0 := by simp [exE] at this; omega
    subst e
    decide +kernel
/-- What the example's formula and model are, in memory. -/
theorem exE_form {w : World} {B : Nat} {v : Value} {us : List Value} (h : CRow w B v us [[-1], [-4, 2], [-4, 3], [4, -2, -3]]) :
    ∃ g c b k, v = .slice (some ⟨g, 0, none⟩) 4 c ∧ g < w.heap.size ∧ b < w.heap.size ∧ w.cell? ⟨g, 3, none⟩ = some (.slice (some ⟨b, 0, none⟩) 3 k) ∧ w.cell? ⟨b, 0, none⟩ = some (.int .i64 4) := by
  have hul := h.ul
  match us, hul with
  | [u0, u1, u2, u3], _ =>
    have ho := h.own
    have h3 := h.each 3 u3 [4, -2, -3] rfl rfl
    rcases ho.2 with ⟨_, h0⟩ | ⟨g, cap, cur, hv, _, hh, _⟩
    · simp at h0
    · rcases h3.2 with ⟨_, h0⟩ | ⟨b, k, cur2, hv2, _, hh2, _⟩
      · simp at h0
      · have c3 := ho.cells (g := g) (by rw [hv]; rfl) 3 u3 rfl
        have d0 := h3.cells (g := b) (by rw [hv2]; rfl) 0 (.int .i64 4) rfl
        rw [add_none] at c3 d0
        rw [hv2] at c3
        exact ⟨g, cap, b, k, hv, (Array.getElem?_eq_some_iff.1 hh).1, (Array.getElem?_eq_some_iff.1 hh2).1, by simpa using c3, by simpa using d0⟩
theorem exE_model {w : World} {B : Nat} {v : Value} (h : w.ownsRow B 4 1 v 4 [.bool false, .bool true, .bool true, .bool true]) :
    ∃ g c, v = .slice (some ⟨g, 0, none⟩) 4 c ∧ w.cell? ⟨g, 0, none⟩ = some (.bool false) ∧ w.cell? ⟨g, 3, none⟩ = some (.bool true) := by
  rcases h.2 with ⟨_, h0⟩ | ⟨g, cap, cur, hv, _, hh, _⟩
  · simp at h0
  · have c0 := h.cells (g := g) (by rw [hv]; rfl) 0 _ rfl
    have c3 := h.cells (g := g) (by rw [hv]; rfl) 3 _ rfl
    rw [add_none] at c0 c3
    exact ⟨g, cap, hv, by simpa using c0, by simpa using c3⟩

set_option maxHeartbeats 4000000 in
set_option maxRecDepth 100000 in
theorem worksE_any (w : World) : Calls Try.prog 5 #[] w fun e w' => e = .returned (.bool true) ∧ Below w.heap.size w w' := by
  obtain ⟨W1, hW1⟩ : ∃ W1, ((w.alloc (.cells #[.int .i64 2, .int .i64 4] 3)).alloc (.cells #[.int .i64 6, .int .i64 2, .int .i64 4] 45)).alloc (.cells #[.int .i64 3, .slice (some ⟨w.heap.size, 0, none⟩) 2 2, .slice none 0 0, .slice none 0 0, .slice none 0 0, .slice none 0 0, .slice none 0 0, .slice none 0 0, .slice (some ⟨w.heap.size + 1, 0, none⟩) 1 1, .slice none 0 0, .slice none 0 0] 29) = W1 := ⟨_, rfl⟩
  have HB0 : Hid (Below w.heap.size w W1) := Lib.hid (by
    rw [← hW1]
    exact (((Below.refl w.heap.size w).alloc (Nat.le_refl _) _).alloc (by simp) _).alloc (by simp; omega) _)
  have hI : Blk W1 w.heap.size 3 #[.int .i64 2, .int .i64 4] := by rw [← hW1]; exact ((Blk.new w _ _).alloc _).alloc _
  have hA : Blk W1 (w.heap.size + 1) 45 #[.int .i64 6, .int .i64 2, .int .i64 4] := by
    rw [← hW1]
    have := Blk.new (w.alloc (.cells #[.int .i64 2, .int .i64 4] 3)) 45 #[.int .i64 6, .int .i64 2, .int .i64 4]
    rw [show (w.alloc (.cells #[.int .i64 2, .int .i64 4] 3)).heap.size = w.heap.size + 1 by simp] at this
    exact this.alloc _
  have HX : Hid (Blk W1 (w.heap.size + 1 + 1) 29 #[.int .i64 3, .slice (some ⟨w.heap.size, 0, none⟩) 2 2, .slice none 0 0, .slice none 0 0, .slice none 0 0, .slice none 0 0, .slice none 0 0, .slice none 0 0, .slice (some ⟨w.heap.size + 1, 0, none⟩) 1 1, .slice none 0 0, .slice none 0 0]) := Lib.hid (by
    rw [← hW1]
    have := Blk.new ((w.alloc (.cells #[.int .i64 2, .int .i64 4] 3)).alloc (.cells #[.int .i64 6, .int .i64 2, .int .i64 4] 45)) 29 #[.int .i64 3, .slice (some ⟨w.heap.size, 0, none⟩) 2 2, .slice none 0 0, .slice none 0 0, .slice none 0 0, .slice none 0 0, .slice none 0 0, .slice none 0 0, .slice (some ⟨w.heap.size + 1, 0, none⟩) 1 1, .slice none 0 0, .slice none 0 0]
    rw [show ((w.alloc (.cells #[.int .i64 2, .int .i64 4] 3)).alloc (.cells #[.int .i64 6, .int .i64 2, .int .i64 4] 45)).heap.size = w.heap.size + 1 + 1 by simp] at this
    exact this)
  have hin := exE_in hI hA
  obtain ⟨O, hO⟩ := ord_ex hin exE_ok
  have HIN := Lib.hid hin
  have hg := Gates_any W1 _ exE hin exE_ok
  rw [exE_gates, exE_vars, exE_check] at hg
  have HG := Lib.hid hg
  have HM : Hid (∀ (wx : World) (sv rv : Value), Below W1.heap.size W1 wx → RowE 1 encO wx sv [] → RowE 1 encO wx rv [true, true] → Calls Try.prog 9 #[CV.val (exEV w.heap.size (w.heap.size + 1)) 3, sv, rv] wx fun e w' => Below wx.heap.size wx w' ∧ ∃ v, e = .returned (.tuple #[v, .int .i64 0]) ∧ w'.ownsRow wx.heap.size 4 1 v 4 [.bool false, .bool true, .bool true, .bool true]) := Lib.hid (fun wx sv rv hb h1 h2 => by
    have := eModel_any wx _ exE sv rv [] [true, true] O (HIN.out.below hb) exE_ok h1 h2 hO
    rwa [exE_fit, exE_val (hO (by rw [exE_check]))] at this)
  have HW1 := Lib.hid hW1
  have HS1 : Hid (W1.heap.size = w.heap.size + 1 + 1 + 1) := Lib.hid (by rw [← hW1]; simp)
  unfold exEV at HX HM HG
  have HX := Lib.hid HX.out
  clear hI hA hin hg hO hW1
  go_enter Try.func5, Try.ntmps5
  go_upto_region 2 with (fail)
  rw [HW1.out]
  go_upto_region 3 with (first
    | (refine wpList_load_row rfl 29 (.tmp 1) rfl (w.heap.size + 1 + 1) rfl 29 #[.int .i64 3, .slice (some ⟨w.heap.size, 0, none⟩) 2 2, .slice none 0 0, .slice none 0 0, .slice none 0 0, .slice none 0 0, .slice none 0 0, .slice none 0 0, .slice (some ⟨w.heap.size + 1, 0, none⟩) 1 1, .slice none 0 0, .slice none 0 0] (0, 0) _ HX.out Try.underlying29 rfl (by kernel_rfl) ?_)
    | (go_at_call 6; refine HG.out.mono ?_; rintro e w2 ⟨hb, v, us, rfl, hc⟩; obtain ⟨g, c, b, k, rfl, hg, hbb, e1, e2⟩ := exE_form hc; have HB2 := Lib.hid hb; have HE := Lib.hid (And.intro (And.intro hg hbb) (And.intro e1 e2)); clear hb hc hg hbb e1 e2))
  have HF2 := Lib.hid (Blk.new w2 34 #[.int .i64 4, .slice (some ⟨g, 0, none⟩) 4 c])
  have HS2 : Hid (W1.heap.size ≤ w2.heap.size) := Lib.hid HB2.out.size
  have HB3 := Lib.hid (HB2.out.alloc HB2.out.size (.cells #[.int .i64 4, .slice (some ⟨g, 0, none⟩) 4 c] 34))
  have HB4 := Lib.hid (HB3.out.alloc HB3.out.size (.cells #[.bool true, .bool true] 4))
  have HX3 := Lib.hid (HX.out.below HB3.out HX.out.lt)
  have HRB : Hid (RowE 1 encO ((w2.alloc (.cells #[.int .i64 4, .slice (some ⟨g, 0, none⟩) 4 c] 34)).alloc (.cells #[.bool true, .bool true] 4)) (.slice (some ⟨w2.heap.size + 1, 0, none⟩) 2 2) [true, true]) := Lib.hid (by
    have := Blk.new (w2.alloc (.cells #[.int .i64 4, .slice (some ⟨g, 0, none⟩) 4 c] 34)) 4 #[.bool true, .bool true]
    rw [show (w2.alloc (.cells #[.int .i64 4, .slice (some ⟨g, 0, none⟩) 4 c] 34)).heap.size = w2.heap.size + 1 by simp] at this
    exact blk_roweE (zs := [true, true]) lenO this (by simp [maxLen]))
  go_upto_region 4 with (first
    | (refine wpList_load_row rfl 29 (.tmp 1) rfl (w.heap.size + 1 + 1) rfl 29 #[.int .i64 3, .slice (some ⟨w.heap.size, 0, none⟩) 2 2, .slice none 0 0, .slice none 0 0, .slice none 0 0, .slice none 0 0, .slice none 0 0, .slice none 0 0, .slice (some ⟨w.heap.size + 1, 0, none⟩) 1 1, .slice none 0 0, .slice none 0 0] (0, 0) _ HX3.out Try.underlying29 rfl (by kernel_rfl) ?_)
    | (go_at_call 9; go_loud (refine (HM.out _ _ _ HB4.out (RowE.nil _ none 0 (by simp [maxLen])) HRB.out).mono ?_; rintro e w5 ⟨hb, v, rfl, ho⟩; obtain ⟨g5, c5, rfl, m0, m3⟩ := exE_model ho; have HB5 := Lib.hid hb; clear hb ho)))
  have hb5 : Below w2.heap.size w2 w5 := ((Below.refl _ _).alloc (Nat.le_refl _) _).trans ((((Below.refl _ _).alloc (Nat.le_refl _) _).trans (HB5.out.mono (by simp))).mono (by simp))
  have hf5 := HF2.out.below (((Below.refl _ _).alloc (Nat.le_refl _) _).trans (HB5.out.mono (by simp))) HF2.out.lt
  have f0 := hf5.cell 0
  have f1 := hf5.cell 1
  have k1 := (hb5.cell (p := ⟨g, 3, none⟩) HE.out.1.1).trans HE.out.2.1
  have k2 := (hb5.cell (p := ⟨b, 0, none⟩) HE.out.1.2).trans HE.out.2.2
  simp only [List.getElem?_toArray, List.getElem?_cons_zero, List.getElem?_cons_succ] at f0 f1
  have HB6 := Lib.hid (bt (bt HB0.out (Nat.le_refl _) HB2.out) (Nat.le_refl _) hb5)
  clear hb5 hf5
  go_wp2
  go_ret
  exact ⟨rfl, HB6.out⟩
end Go.Proofs.Ytbgdhfnfbahdhab
