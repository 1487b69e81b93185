/- The contract of the statements' own table of gates. -/
import Derived.Test.YtfcjdfjobneeeaaUses
namespace Go.Proofs.Ytfcjdfjobneeeaa
open Go.RowKit

set_option maxHeartbeats 4000000 in
set_option maxRecDepth 100000 in
theorem gates_any (w : World) (V : CV) (C : Circ) (h : C.In w V) (hm0 : 0 ≤ C.max) (hm : C.max ≤ 16384) (hal : C.ands.length ≤ 16384) (hfit : ∀ z ∈ C.ands, FitT C.max z) :
    Calls Try.prog 26 #[V.val C.max] w fun e w' => ∃ g, e = .returned (.slice (some ⟨g, 0, none⟩) (C.max.toNat + 1) (C.max.toNat + 1)) ∧ w.heap.size ≤ g ∧ Below w.heap.size w w' ∧ Nums w' g (gateOf C) := by
  obtain ⟨m, hmm⟩ : ∃ m : Nat, C.max = (m : Int) := ⟨C.max.toNat, by omega⟩
  have hmt : C.max.toNat = m := by rw [hmm]; rfl
  rw [hmt]
  rw [hmm] at hm hfit ⊢
  clear hmt
  have hgo : gateOf C = gateF C.ands 0 (List.replicate (m + 1) (-1)) := by unfold gateOf; rw [hmm]; rfl
  have HGO := Lib.hid hgo
  clear hgo hm0
  have HB0 := Lib.hid (Below.refl w.heap.size w)
  have hmk := make_ints (m + 1) (by omega)
  push_cast at hmk
  have HM : Hid (Mid2 w ((w.alloc (.cells (V.cells m) 29)).alloc (.cells (madeCells #[Value.int .i64 0] (m + 1)) 3)) w.heap.size (w.heap.size + 1) (V.cells m) (List.replicate 0 (-1) ++ List.replicate (m + 1 - 0) 0)) := by
    refine Lib.hid ⟨(HB0.out.alloc (Nat.le_refl _) _).alloc (by simp) _, (Blk.new _ _ _).alloc _, ?_⟩
    have := new_ints (w.alloc (.cells (V.cells m) 29)) (m + 1)
    simpa using this
  obtain ⟨AA, cA, eA, _, _, hA⟩ := h.a
  obtain ⟨Vi, Vl, Vo, Vb, Vc, Vj, Vf, Va, Vs, Vt⟩ := V
  simp only at eA
  subst eA
  have HA := Lib.hid hA
  have HFIT := Lib.hid hfit
  clear hA h hfit hmm
  generalize hn : C.ands.length = n at *
  have HN := Lib.hid hn
  clear hn
  go_enter Try.func26, Try.ntmps26
  go_wp2
  go_loopw [13] (fun i wr => ∃ k : Nat, k ≤ m + 1 ∧ i = .int .i64 k ∧ Mid2 w wr w.heap.size (w.heap.size + 1) _ (List.replicate k (-1) ++ List.replicate (m + 1 - k) 0)) (fun i _ => m + 1 - (intOf i).toNat)
  case atStart => exact ⟨0, Nat.zero_le _, rfl, HM.out⟩
  case round =>
    obtain ⟨k, hk, rfl, hmid⟩ := hrel
    have HMM := Lib.hid hmid
    clear hmid
    by_cases hlt : k < m + 1
    · have hcell := HMM.out.nums.cell (fill_get hlt)
      have hfr := Blk.frozen HMM.out.nums k
      go_wp2
      go_roundw
      case rel =>
        have := HMM.out.set_ (by omega) (by omega) k (-1)
        rw [fill_set hlt] at this
        exact ⟨k + 1, by omega, by go_num, this⟩
      case measure => simp [intOf]; omega
    · have : k = m + 1 := by omega
      subst this
      have h8 := HMM.out.box.cell 8
      simp at h8
      have hm1 := HMM.out
      simp only [Nat.sub_self, List.replicate_zero, List.append_nil] at hm1
      have HM1 := Lib.hid hm1
      clear hm1
      clear HMM HM
      go_wp2
      go_loopw [23] (fun i wr => ∃ (k : Nat) (G : List Int), k ≤ n ∧ i = .int .i64 k ∧ G.length = m + 1 ∧ gateF C.ands 0 (List.replicate (m + 1) (-1)) = gateF (C.ands.drop k) k G ∧ Mid2 w wr w.heap.size (w.heap.size + 1) _ G) (fun i _ => n - (intOf i).toNat)
      case atStart => exact ⟨0, _, Nat.zero_le _, rfl, by simp, rfl, HM1.out⟩
      case round =>
        obtain ⟨k, G, hk, rfl, hgl, hall, hmid⟩ := hrel
        have HMM := Lib.hid hmid
        have HAL := Lib.hid hall
        have HGL := Lib.hid hgl
        clear hmid hall hgl
        by_cases hlt : k < n
        · have hx := List.getElem?_eq_getElem (l := C.ands) (i := k) (by rw [HN.out]; exact hlt)
          generalize C.ands[k]'(by rw [HN.out]; exact hlt) = x at hx
          obtain ⟨b, off, rfl, hb, hcell⟩ := HA.out k x hx
          have HX := Lib.hid hx
          have hxo := HFIT.out x (List.mem_of_getElem? HX.out)
          clear hx
          obtain ⟨x0, x1, x2⟩ := x
          have h0 := (HMM.out.below.cell (p := ⟨b, off + (k * 3 + 0), none⟩) hb).trans (hcell 0 _ rfl)
          have h1 := (HMM.out.below.cell (p := ⟨b, off + (k * 3 + 1), none⟩) hb).trans (hcell 1 _ rfl)
          have h2 := (HMM.out.below.cell (p := ⟨b, off + (k * 3 + 2), none⟩) hb).trans (hcell 2 _ rfl)
          simp only [Nat.add_zero, ← Nat.add_assoc] at h0 h1 h2
          clear hcell
          obtain ⟨⟨a1, a2⟩, _, _⟩ := hxo
          simp only at a1 a2
          have hq := tdiv_nn (b := 2) a1
          have hq0 : 0 ≤ x0 / 2 := by omega
          have hq1 : x0 / 2 < (m : Int) + 1 := by omega
          have hq2 : (x0 / 2).toNat < G.length := by rw [HGL.out]; omega
          obtain ⟨gv, hgv⟩ : ∃ x, G[(x0 / 2).toNat]? = some x := ⟨_, List.getElem?_eq_getElem hq2⟩
          have hg := HMM.out.nums.cell hgv
          have hfr := Blk.frozen HMM.out.nums (x0 / 2).toNat
          have hgl := Blk.lt HMM.out.nums
          clear hq2 hgv
          go_wp2
          go_roundw
          case rel => exact ⟨k + 1, _, by omega, by go_num, by rw [List.length_set]; exact HGL.out, by rw [HAL.out]; exact gateF_step HX.out, (HMM.out.set_ (by omega) (by omega) _ _).alloc _⟩
          case measure => simp [intOf]; omega
        · have : k = n := by omega
          subst this
          have HG : Hid (gateOf C = G) := Lib.hid (HGO.out.trans (HAL.out.trans (gateF_end (by rw [HN.out]; exact Nat.le_refl _))))
          clear HAL HM1
          go_wp2
          go_ret
          exact ⟨_, rfl, by omega, HMM.out.below, by rw [HG.out]; exact HMM.out.nums⟩
end Go.Proofs.Ytfcjdfjobneeeaa
