/- The contract of newLiterals: of each variable its new literal. -/
import Derived.Test.YtdladffjenfikaaNewl
import Derived.Laws.EntriesVeiled
import Derived.Deep.LoopGhost
import Derived.Deep.RegionWith
namespace Go.Proofs.Ytdladffjenfikaa
open Go.RowKit

structure NumS (w0 wr : World) (bx gm bm bl : Nat) (cs : Array Value) (st : Int × List Int) : Prop where
  below : Below w0.heap.size w0 wr
  box : Blk wr bx 29 cs
  st : NumB wr bl bm gm st.1 st.2
theorem NumS.alloc {w0 wr : World} {bx gm bm bl : Nat} {cs : Array Value} {st : Int × List Int} (h : NumS w0 wr bx gm bm bl cs st) (o : Obj) : NumS w0 (wr.alloc o) bx gm bm bl cs st :=
  ⟨h.below.alloc h.below.size o, h.box.alloc o, ⟨h.st.last.alloc o, h.st.mp.alloc o, Blk.alloc h.st.nums o⟩⟩
theorem NumS.step {w0 wr : World} {bx : Nat} {cs : Array Value} {ls : List Int} {l : Int} {s0 : Int × List Int} (h : NumS w0 wr bx (bx + 1) (bx + 1 + 1) (bx + 1 + 1 + 1) cs (numF ls s0)) (hB : w0.heap.size ≤ bx) {last : Int} (hl : (numF ls s0).1 = last) :
    NumS w0 ((wr.setCell ⟨bx + 1 + 1 + 1, 0, none⟩ (.int .i64 (last + 2))).setCell ⟨bx + 1, (l / 2).toNat, none⟩ (.int .i64 (last + 2))) bx (bx + 1) (bx + 1 + 1) (bx + 1 + 1 + 1) cs (numF (ls ++ [l]) s0) := by
  subst hl
  rw [numF_snoc]
  exact ⟨(h.below.setCell (by simp; omega) _).setCell (by simp; omega) _, Blk.far (Blk.far h.box (by simp; omega) _) (by simp) _, h.st.step (by omega) (by omega) (by omega) _⟩

set_option maxHeartbeats 4000000 in
set_option maxRecDepth 100000 in
theorem newLiterals_any (w : World) (V : CV) (C : Circ) (gv : Value) (gs : List Int) (h : C.In w V) (hg : RowE 1 encI w gv gs) (hm0 : 0 ≤ C.max) (hm : C.max ≤ 16384)
    (hI : ∀ l ∈ C.inputs, 0 ≤ l ∧ l / 2 ≤ C.max) (hL : ∀ z ∈ C.latches, 0 ≤ z.1 ∧ z.1 / 2 ≤ C.max) (hA : ∀ z ∈ C.ands, 0 ≤ z.1 ∧ z.1 / 2 ≤ C.max) (hG : ∀ g ∈ gs, 0 ≤ g ∧ g < (C.ands.length : Int))
    (hsz : C.inputs.length ≤ 16384 ∧ C.latches.length ≤ 16384 ∧ gs.length ≤ 16384) :
    Calls Try.prog 56 #[V.val C.max, gv] w fun e w' => ∃ g, e = .returned (.slice (some ⟨g, 0, none⟩) (C.max.toNat + 1) (C.max.toNat + 1)) ∧ w.heap.size ≤ g ∧ Below w.heap.size w w' ∧ Nums w' g (newM C gs) := by
  obtain ⟨m, hmm⟩ : ∃ m : Nat, C.max = (m : Int) := ⟨C.max.toNat, by omega⟩
  have hmt : C.max.toNat = m := by rw [hmm]; rfl
  have hnm : newM C gs = (numF (C.inputs ++ C.latches.map (·.1) ++ gs.map (fun g => (C.ands.getD g.toNat (0, 0, 0)).1)) (0, List.replicate (m + 1) 0)).2 := by unfold newM; rw [hmt]
  rw [hmt, hnm]
  rw [hmm] at hm hI hL hA ⊢
  clear hm0 hmt hnm
  have hmk := make_ints (m + 1) (by omega)
  push_cast at hmk
  obtain ⟨hs1, hs2, hs3⟩ := hsz
  obtain ⟨AI, cI, eI, _, _, rI⟩ := h.i
  obtain ⟨AL, cL, eL, _, _, rL⟩ := h.l
  obtain ⟨AA, cA, eA, _, _, rA⟩ := h.a
  obtain ⟨AG, cG, eG, _, _, rG⟩ := hg
  obtain ⟨Vi, Vl, Vo, Vb, Vc, Vj, Vf, Va, Vs, Vt⟩ := V
  simp only at eI eL eA
  subst eI eL eA eG
  have HS0 : Hid (NumS w ((((w.alloc (.cells #[.int .i64 m, .slice AI C.inputs.length cI, .slice AL C.latches.length cL, Vo, Vb, Vc, Vj, Vf, .slice AA C.ands.length cA, Vs, Vt] 29)).alloc (.cells (madeCells #[Value.int .i64 0] (m + 1)) 3)).alloc (.cells #[.slice (some ⟨w.heap.size + 1, 0, none⟩) (m + 1) (m + 1)] 22)).alloc (.cells #[.int .i64 0] 3)) w.heap.size (w.heap.size + 1) (w.heap.size + 1 + 1) (w.heap.size + 1 + 1 + 1) #[.int .i64 m, .slice AI C.inputs.length cI, .slice AL C.latches.length cL, Vo, Vb, Vc, Vj, Vf, .slice AA C.ands.length cA, Vs, Vt] (numF [] (0, List.replicate (m + 1) 0))) := by
    refine Lib.hid ⟨((((Below.refl w.heap.size w).alloc (Nat.le_refl _) _).alloc (by simp) _).alloc (by simp; omega) _).alloc (by simp; omega) _, (((Blk.new w _ _).alloc _).alloc _).alloc _, ⟨?_, ?_, ?_⟩⟩
    · have := Blk.new (((w.alloc (.cells #[.int .i64 m, .slice AI C.inputs.length cI, .slice AL C.latches.length cL, Vo, Vb, Vc, Vj, Vf, .slice AA C.ands.length cA, Vs, Vt] 29)).alloc (.cells (madeCells #[Value.int .i64 0] (m + 1)) 3)).alloc (.cells #[.slice (some ⟨w.heap.size + 1, 0, none⟩) (m + 1) (m + 1)] 22)) 3 #[.int .i64 0]
      simpa [numF] using this
    · have := (Blk.new ((w.alloc (.cells #[.int .i64 m, .slice AI C.inputs.length cI, .slice AL C.latches.length cL, Vo, Vb, Vc, Vj, Vf, .slice AA C.ands.length cA, Vs, Vt] 29)).alloc (.cells (madeCells #[Value.int .i64 0] (m + 1)) 3)) 22 #[.slice (some ⟨w.heap.size + 1, 0, none⟩) (m + 1) (m + 1)]).alloc (.cells #[.int .i64 0] 3)
      simpa [numF] using this
    · have := ((Blk.new (w.alloc (.cells #[.int .i64 m, .slice AI C.inputs.length cI, .slice AL C.latches.length cL, Vo, Vb, Vc, Vj, Vf, .slice AA C.ands.length cA, Vs, Vt] 29)) 3 (madeCells #[Value.int .i64 0] (m + 1))).alloc (.cells #[.slice (some ⟨w.heap.size + 1, 0, none⟩) (m + 1) (m + 1)] 22)).alloc (.cells #[.int .i64 0] 3)
      unfold Nums
      rw [show (numF [] (0, List.replicate (m + 1) (0 : Int))).2 = List.replicate (m + 1) (0 : Int) from rfl, ← made_ints]
      simpa using this
  have HRI := Lib.hid rI
  have HRL := Lib.hid rL
  have HRA := Lib.hid rA
  have HRG := Lib.hid rG
  have HI := Lib.hid hI
  have HL := Lib.hid hL
  have HA := Lib.hid hA
  have HG := Lib.hid hG
  clear rI rL rA rG hI hL hA hG h hmm
  have HLEN : Hid (∀ ls : List Int, (numF ls (0, List.replicate (m + 1) 0)).2.length = m + 1 ∧ (numF ls (0, List.replicate (m + 1) 0)).1 = 2 * (ls.length : Int)) := Lib.hid (fun ls => by
    obtain ⟨a, b⟩ := numF_len ls (0, List.replicate (m + 1) 0)
    exact ⟨by rw [a]; simp, by rw [b]; simp⟩)
  generalize hnI : C.inputs.length = nI at *
  generalize hnL : C.latches.length = nL at *
  generalize hnA : C.ands.length = nA at *
  generalize hnG : gs.length = nG at *
  have HNI := Lib.hid hnI
  have HNL := Lib.hid hnL
  have HNA := Lib.hid hnA
  have HNG := Lib.hid hnG
  clear hnI hnL hnA hnG
  go_enter Try.func56, Try.ntmps56
  go_wp2
  go_loopg [22] nI (fun k j wx => ∃ q : Nat, q ≤ nI ∧ k = nI - q ∧ j = .int .i64 q ∧ NumS w wx w.heap.size (w.heap.size + 1) (w.heap.size + 1 + 1) (w.heap.size + 1 + 1 + 1) #[.int .i64 m, .slice AI nI cI, .slice AL nL cL, Vo, Vb, Vc, Vj, Vf, .slice AA nA cA, Vs, Vt] (numF ((C.inputs).take q) (0, List.replicate (m + 1) 0)))
  case atStart => exact ⟨0, Nat.zero_le _, rfl, rfl, HS0.out⟩
  case round =>
    obtain ⟨q, hq, hgk, rfl, hst⟩ := hrel
    subst hgk
    have HST := Lib.hid hst
    have bx := hst.box
    have x1 := bx.cell 1
    have x2 := bx.cell 2
    have x8 := bx.cell 8
    simp only [List.getElem?_toArray, List.getElem?_cons_zero, List.getElem?_cons_succ] at x1 x2 x8
    have xm := hst.st.mp.cell 0
    simp only [List.getElem?_toArray, List.getElem?_cons_zero] at xm
    rw [(HLEN.out ((C.inputs).take q)).1] at xm
    clear bx
    by_cases hlt : q < nI
    · obtain ⟨l, hl⟩ : ∃ l, C.inputs[q]? = some l := ⟨_, List.getElem?_eq_getElem (by rw [HNI.out]; exact hlt)⟩
      obtain ⟨b, off, e, hb, hcell⟩ := HRI.out q l hl
      subst e
      have h0 := (HST.out.below.cell (p := ⟨b, off + (q * 1 + 0), none⟩) hb).trans (hcell 0 _ rfl)
      simp only [Nat.mul_one, Nat.add_zero] at h0
      obtain ⟨hl0, hl1⟩ := HI.out l (List.mem_of_getElem? hl)
      clear hcell
      have hp : (C.inputs).take (q + 1) = (C.inputs).take q ++ [l] := by rw [List.take_add_one, hl]; rfl
      have HP := Lib.hid hp
      have hlen1 := (HLEN.out ((C.inputs).take q)).1
      have hlast := (HLEN.out ((C.inputs).take q)).2
      obtain ⟨st, hst1⟩ : ∃ st, numF ((C.inputs).take q) (0, List.replicate (m + 1) 0) = st := ⟨_, rfl⟩
      rw [hst1] at hlen1 hlast
      have HS1 := Lib.hid hst1
      have hql : (((C.inputs).take q).length : Int) ≤ 65536 := by
        simp only [List.length_take, HNI.out]
        omega
      have hcall : ∀ (wx : World) (cs' : Array Value), NumS w wx w.heap.size (w.heap.size + 1) (w.heap.size + 1 + 1) (w.heap.size + 1 + 1 + 1) cs' st → Calls Try.prog 88 #[.int .i64 l, .pointer (some ⟨w.heap.size + 1 + 1 + 1, 0, none⟩), .pointer (some ⟨w.heap.size + 1 + 1, 0, none⟩)] wx fun e w' => e = .returned (.tuple #[]) ∧ w' = (wx.setCell ⟨w.heap.size + 1 + 1 + 1, 0, none⟩ (.int .i64 (st.1 + 2))).setCell ⟨w.heap.size + 1, (l / 2).toNat, none⟩ (.int .i64 (st.1 + 2)) := fun wx cs' hx =>
        number_any wx (w.heap.size + 1 + 1 + 1) (w.heap.size + 1 + 1) (w.heap.size + 1) st.1 st.2 l hx.st (by omega) (by omega) (by omega) hl0 (by rw [hlen1]; push_cast; omega) (by rw [hlen1]; omega) (by omega) (by omega)
      have hnow := hst
      rw [hst1] at hnow
      have hc1 := hcall _ _ (hnow)
      have HC1 := Lib.hid hc1
      clear hst hnow hl hp hlen1 hlast hst1 hql hcall hc1
      go_wp2_with (go_at_call 88; refine HC1.out.mono ?_; rintro e w5 ⟨rfl, rfl⟩)
      go_roundg (nI - (q + 1))
      case measure => omega
      case rel =>
        refine ⟨q + 1, by omega, rfl, by go_num, ?_⟩
        rw [HP.out]
        have := HST.out
        exact this.step (Nat.le_refl _) (by rw [HS1.out])
    · have hqe : nI = q := by omega
      subst hqe
      clear hst hlt hq
      go_wp2
      go_loopg [33] nL (fun k j wx => ∃ q : Nat, q ≤ nL ∧ k = nL - q ∧ j = .int .i64 q ∧ NumS w wx w.heap.size (w.heap.size + 1) (w.heap.size + 1 + 1) (w.heap.size + 1 + 1 + 1) #[.int .i64 m, .slice AI nI cI, .slice AL nL cL, Vo, Vb, Vc, Vj, Vf, .slice AA nA cA, Vs, Vt] (numF (C.inputs ++ (C.latches.map (·.1)).take q) (0, List.replicate (m + 1) 0)))
      case atStart => exact ⟨0, Nat.zero_le _, rfl, rfl, (by have := HST.out; rw [List.take_of_length_le (by rw [HNI.out]; exact Nat.le_refl _)] at this; simpa using this)⟩
      case round =>
        obtain ⟨q, hq, hgk, rfl, hst⟩ := hrel
        subst hgk
        have HST := Lib.hid hst
        have bx := hst.box
        have x1 := bx.cell 1
        have x2 := bx.cell 2
        have x8 := bx.cell 8
        simp only [List.getElem?_toArray, List.getElem?_cons_zero, List.getElem?_cons_succ] at x1 x2 x8
        have xm := hst.st.mp.cell 0
        simp only [List.getElem?_toArray, List.getElem?_cons_zero] at xm
        rw [(HLEN.out (C.inputs ++ (C.latches.map (·.1)).take q)).1] at xm
        clear bx
        by_cases hlt : q < nL
        · obtain ⟨z, hz⟩ : ∃ z, C.latches[q]? = some z := ⟨_, List.getElem?_eq_getElem (by rw [HNL.out]; exact hlt)⟩
          obtain ⟨l, hl⟩ : ∃ l, (C.latches.map (·.1))[q]? = some l := ⟨z.1, by rw [List.getElem?_map, hz]; rfl⟩
          have hlz : l = z.1 := by rw [List.getElem?_map, hz] at hl; injection hl with hl; exact hl.symm
          obtain ⟨b, off, e, hb, hcell⟩ := HRL.out q z hz
          subst e
          have h0 := (HST.out.below.cell (p := ⟨b, off + (q * 3 + 0), none⟩) hb).trans (hcell 0 _ rfl)
          have h1 := (HST.out.below.cell (p := ⟨b, off + (q * 3 + 1), none⟩) hb).trans (hcell 1 _ rfl)
          have h2 := (HST.out.below.cell (p := ⟨b, off + (q * 3 + 2), none⟩) hb).trans (hcell 2 _ rfl)
          simp only [Nat.add_zero, ← Nat.add_assoc] at h0 h1 h2
          obtain ⟨hl0, hl1⟩ := HL.out z (List.mem_of_getElem? hz)
          rw [← hlz] at h0 hl0 hl1
          clear hcell hz hlz
          have hp : (C.latches.map (·.1)).take (q + 1) = (C.latches.map (·.1)).take q ++ [l] := by rw [List.take_add_one, hl]; rfl
          have HP := Lib.hid hp
          have hlen1 := (HLEN.out (C.inputs ++ (C.latches.map (·.1)).take q)).1
          have hlast := (HLEN.out (C.inputs ++ (C.latches.map (·.1)).take q)).2
          obtain ⟨st, hst1⟩ : ∃ st, numF (C.inputs ++ (C.latches.map (·.1)).take q) (0, List.replicate (m + 1) 0) = st := ⟨_, rfl⟩
          rw [hst1] at hlen1 hlast
          have HS1 := Lib.hid hst1
          have hql : ((C.inputs ++ (C.latches.map (·.1)).take q).length : Int) ≤ 65536 := by
            simp only [List.length_append, List.length_map, List.length_take, HNI.out, HNL.out]
            omega
          have hcall : ∀ (wx : World) (cs' : Array Value), NumS w wx w.heap.size (w.heap.size + 1) (w.heap.size + 1 + 1) (w.heap.size + 1 + 1 + 1) cs' st → Calls Try.prog 88 #[.int .i64 l, .pointer (some ⟨w.heap.size + 1 + 1 + 1, 0, none⟩), .pointer (some ⟨w.heap.size + 1 + 1, 0, none⟩)] wx fun e w' => e = .returned (.tuple #[]) ∧ w' = (wx.setCell ⟨w.heap.size + 1 + 1 + 1, 0, none⟩ (.int .i64 (st.1 + 2))).setCell ⟨w.heap.size + 1, (l / 2).toNat, none⟩ (.int .i64 (st.1 + 2)) := fun wx cs' hx =>
            number_any wx (w.heap.size + 1 + 1 + 1) (w.heap.size + 1 + 1) (w.heap.size + 1) st.1 st.2 l hx.st (by omega) (by omega) (by omega) hl0 (by rw [hlen1]; push_cast; omega) (by rw [hlen1]; omega) (by omega) (by omega)
          have hnow := hst
          rw [hst1] at hnow
          have hc1 := hcall _ _ (hnow.alloc (.cells #[.int .i64 l, .int .i64 z.2.1, .int .i64 z.2.2] 61))
          have HC1 := Lib.hid hc1
          clear hst hnow hl hp hlen1 hlast hst1 hql hcall hc1
          go_wp2_with (go_at_call 88; refine HC1.out.mono ?_; rintro e w5 ⟨rfl, rfl⟩)
          go_roundg (nL - (q + 1))
          case measure => omega
          case rel =>
            refine ⟨q + 1, by omega, rfl, by go_num, ?_⟩
            rw [HP.out, ← List.append_assoc]
            have := HST.out.alloc (.cells #[.int .i64 l, .int .i64 z.2.1, .int .i64 z.2.2] 61)
            exact this.step (Nat.le_refl _) (by rw [HS1.out])
        · have hqe : nL = q := by omega
          subst hqe
          clear hst hlt hq
          go_wp2
          go_loopg [44] nG (fun k j wx => ∃ q : Nat, q ≤ nG ∧ k = nG - q ∧ j = .int .i64 q ∧ NumS w wx w.heap.size (w.heap.size + 1) (w.heap.size + 1 + 1) (w.heap.size + 1 + 1 + 1) #[.int .i64 m, .slice AI nI cI, .slice AL nL cL, Vo, Vb, Vc, Vj, Vf, .slice AA nA cA, Vs, Vt] (numF (C.inputs ++ C.latches.map (·.1) ++ (gs.map (fun g => (C.ands.getD g.toNat (0, 0, 0)).1)).take q) (0, List.replicate (m + 1) 0)))
          case atStart => exact ⟨0, Nat.zero_le _, rfl, rfl, (by have := HST.out; rw [List.take_of_length_le (by rw [List.length_map, HNL.out]; exact Nat.le_refl _)] at this; simpa using this)⟩
          case round =>
            obtain ⟨q, hq, hgk, rfl, hst⟩ := hrel
            subst hgk
            have HST := Lib.hid hst
            have bx := hst.box
            have x1 := bx.cell 1
            have x2 := bx.cell 2
            have x8 := bx.cell 8
            simp only [List.getElem?_toArray, List.getElem?_cons_zero, List.getElem?_cons_succ] at x1 x2 x8
            have xm := hst.st.mp.cell 0
            simp only [List.getElem?_toArray, List.getElem?_cons_zero] at xm
            rw [(HLEN.out (C.inputs ++ C.latches.map (·.1) ++ (gs.map (fun g => (C.ands.getD g.toNat (0, 0, 0)).1)).take q)).1] at xm
            clear bx
            by_cases hlt : q < nG
            · obtain ⟨gq, hgq⟩ : ∃ gq, gs[q]? = some gq := ⟨_, List.getElem?_eq_getElem (by rw [HNG.out]; exact hlt)⟩
              obtain ⟨hg0, hg1⟩ := HG.out gq (List.mem_of_getElem? hgq)
              obtain ⟨gn, rfl⟩ : ∃ n : Nat, gq = (n : Int) := ⟨gq.toNat, by omega⟩
              obtain ⟨z, hz⟩ : ∃ z, C.ands[gn]? = some z := ⟨_, List.getElem?_eq_getElem (by rw [HNA.out]; omega)⟩
              obtain ⟨l, hl⟩ : ∃ l, (gs.map (fun g => (C.ands.getD g.toNat (0, 0, 0)).1))[q]? = some l := ⟨z.1, by rw [List.getElem?_map, hgq]; simp [List.getD, hz]⟩
              have hlz : l = z.1 := by rw [List.getElem?_map, hgq] at hl; simp [List.getD, hz] at hl; exact hl.symm
              obtain ⟨b, off, e, hb, hcell⟩ := HRG.out q _ hgq
              subst e
              have h0 := (HST.out.below.cell (p := ⟨b, off + (q * 1 + 0), none⟩) hb).trans (hcell 0 _ rfl)
              simp only [Nat.mul_one, Nat.add_zero] at h0
              obtain ⟨b2, off2, e2, hb2, hcell2⟩ := HRA.out gn z hz
              subst e2
              have h3 := (HST.out.below.cell (p := ⟨b2, off2 + (gn * 3 + 0), none⟩) hb2).trans (hcell2 0 _ rfl)
              simp only [Nat.add_zero] at h3
              obtain ⟨hl0, hl1⟩ := HA.out z (List.mem_of_getElem? hz)
              rw [← hlz] at h3 hl0 hl1
              clear hcell hcell2 hz hlz hgq
              have hp : (gs.map (fun g => (C.ands.getD g.toNat (0, 0, 0)).1)).take (q + 1) = (gs.map (fun g => (C.ands.getD g.toNat (0, 0, 0)).1)).take q ++ [l] := by rw [List.take_add_one, hl]; rfl
              have HP := Lib.hid hp
              have hlen1 := (HLEN.out (C.inputs ++ C.latches.map (·.1) ++ (gs.map (fun g => (C.ands.getD g.toNat (0, 0, 0)).1)).take q)).1
              have hlast := (HLEN.out (C.inputs ++ C.latches.map (·.1) ++ (gs.map (fun g => (C.ands.getD g.toNat (0, 0, 0)).1)).take q)).2
              obtain ⟨st, hst1⟩ : ∃ st, numF (C.inputs ++ C.latches.map (·.1) ++ (gs.map (fun g => (C.ands.getD g.toNat (0, 0, 0)).1)).take q) (0, List.replicate (m + 1) 0) = st := ⟨_, rfl⟩
              rw [hst1] at hlen1 hlast
              have HS1 := Lib.hid hst1
              have hql : ((C.inputs ++ C.latches.map (·.1) ++ (gs.map (fun g => (C.ands.getD g.toNat (0, 0, 0)).1)).take q).length : Int) ≤ 65536 := by
                simp only [List.length_append, List.length_map, List.length_take, HNI.out, HNL.out, HNG.out]
                omega
              have hcall : ∀ (wx : World) (cs' : Array Value), NumS w wx w.heap.size (w.heap.size + 1) (w.heap.size + 1 + 1) (w.heap.size + 1 + 1 + 1) cs' st → Calls Try.prog 88 #[.int .i64 l, .pointer (some ⟨w.heap.size + 1 + 1 + 1, 0, none⟩), .pointer (some ⟨w.heap.size + 1 + 1, 0, none⟩)] wx fun e w' => e = .returned (.tuple #[]) ∧ w' = (wx.setCell ⟨w.heap.size + 1 + 1 + 1, 0, none⟩ (.int .i64 (st.1 + 2))).setCell ⟨w.heap.size + 1, (l / 2).toNat, none⟩ (.int .i64 (st.1 + 2)) := fun wx cs' hx =>
                number_any wx (w.heap.size + 1 + 1 + 1) (w.heap.size + 1 + 1) (w.heap.size + 1) st.1 st.2 l hx.st (by omega) (by omega) (by omega) hl0 (by rw [hlen1]; push_cast; omega) (by rw [hlen1]; omega) (by omega) (by omega)
              have hnow := hst
              rw [hst1] at hnow
              have hc1 := hcall _ _ (hnow)
              have HC1 := Lib.hid hc1
              clear hst hnow hl hp hlen1 hlast hst1 hql hcall hc1
              go_wp2_with (go_at_call 88; refine HC1.out.mono ?_; rintro e w5 ⟨rfl, rfl⟩)
              go_roundg (nG - (q + 1))
              case measure => omega
              case rel =>
                refine ⟨q + 1, by omega, rfl, by go_num, ?_⟩
                rw [HP.out, ← List.append_assoc]
                have := HST.out
                exact this.step (Nat.le_refl _) (by rw [HS1.out])
            · have hqe : nG = q := by omega
              subst hqe
              clear hst hlt hq
              go_wp2

              have := HST.out
              rw [List.take_of_length_le (by rw [List.length_map, HNG.out]; exact Nat.le_refl _)] at this
              go_ret
              exact ⟨w.heap.size + 1, rfl, by omega, this.below, this.st.nums⟩
end Go.Proofs.Ytdladffjenfikaa
