/- Sim: the contracts of the calls Starts: the program's and the document's. -/
import Derived.Test.YtilbgopdciiadaaSimE
namespace Go.Proofs.Ytilbgopdciiadaa
open Go.RowKit

def startE (C : Circ) (st : List Bool) : Int := if (checkR C).2 = 0 then (if st.length = C.latches.length then 0 else 4) else (checkR C).2
def startB (C : Circ) (st : List Bool) : Bool := decide (startE C st = 0) && startsF C st
def startP (p : Tri × Bool) : Bool := decide (p.1.2.2 = p.1.1) || (p.2 == decide (p.1.2.2 = 1))
theorem startsF_eq (C : Circ) (st : List Bool) : startsF C st = (C.latches.zip st).all startP := rfl
theorem start_snoc {C : Circ} {st : List Bool} {q : Nat} {z : Tri} {y : Bool} (hz : C.latches[q]? = some z) (hy : st[q]? = some y) : (C.latches.zip st).take (q + 1) = (C.latches.zip st).take q ++ [(z, y)] := by
  have : (C.latches.zip st)[q]? = some (z, y) := by rw [List.getElem?_zip_eq_some]; exact ⟨hz, hy⟩
  rw [List.take_add_one, this]; rfl
theorem start_mem {C : Circ} {st : List Bool} {q : Nat} {z : Tri} {y : Bool} (hz : C.latches[q]? = some z) (hy : st[q]? = some y) : (z, y) ∈ C.latches.zip st := by
  have : (C.latches.zip st)[q]? = some (z, y) := by rw [List.getElem?_zip_eq_some]; exact ⟨hz, hy⟩
  exact List.mem_of_getElem? this
theorem start_no {C : Circ} {st : List Bool} {q : Nat} {z : Tri} {y : Bool} (hz : C.latches[q]? = some z) (hy : st[q]? = some y) (h : startP (z, y) = false) : startsF C st = false := by
  rw [startsF_eq, List.all_eq_false]
  exact ⟨(z, y), start_mem hz hy, by rw [h]; decide⟩
theorem start_yes {C : Circ} {st : List Bool} {q : Nat} {z : Tri} {y : Bool} (hz : C.latches[q]? = some z) (hy : st[q]? = some y) (h : startP (z, y) = true) (ha : ((C.latches.zip st).take q).all startP = true) : ((C.latches.zip st).take (q + 1)).all startP = true := by
  rw [start_snoc hz hy, List.all_append, ha]; simp [h]
theorem start_end {C : Circ} {st : List Bool} {n : Nat} (hn : C.latches.length = n) (ha : ((C.latches.zip st).take n).all startP = true) : startsF C st = true := by
  rw [List.take_of_length_le (by rw [List.length_zip]; omega)] at ha
  rw [startsF_eq]; exact ha
theorem startE_bad {C : Circ} {st : List Bool} (h : (checkR C).2 ≠ 0) : startE C st = (checkR C).2 := by unfold startE; rw [if_neg h]
theorem startE_not {C : Circ} {st : List Bool} (h : (checkR C).2 = 0) (h1 : st.length ≠ C.latches.length) : startE C st = 4 := by unfold startE; rw [if_pos h, if_neg h1]
theorem startE_ok {C : Circ} {st : List Bool} (h : (checkR C).2 = 0) (h1 : st.length = C.latches.length) : startE C st = 0 := by unfold startE; rw [if_pos h, if_pos h1]
theorem startB_not {C : Circ} {st : List Bool} (h : startE C st ≠ 0) : startB C st = false := by unfold startB; rw [decide_eq_false h]; rfl
theorem startB_ok {C : Circ} {st : List Bool} (h : startE C st = 0) : startB C st = startsF C st := by unfold startB; rw [decide_eq_true h]; rfl
theorem two_ret {a b : Bool} {x y : Int} (h : a = b) (h2 : x = y) : Ending.returned (.tuple #[.bool a, .int .i64 x]) = .returned (.tuple #[.bool b, .int .i64 y]) := by rw [h, h2]

end Go.Proofs.Ytilbgopdciiadaa

namespace Go.Proofs.Ytilbgopdciiadaa
open Go.RowKit

set_option maxHeartbeats 8000000 in
set_option maxRecDepth 100000 in
theorem Starts_any (w : World) (V : CV) (C : Circ) (sv : Value) (st : List Bool) (h : C.In w V) (ok : C.Ok) (hs : RowE 1 encO w sv st) :
    Calls Try.prog 33 #[V.val C.max, sv] w fun e w' => e = .returned (.tuple #[.bool (startB C st), .int .i64 (startE C st)]) ∧ Below w.heap.size w w' := by
  have hck := Check_any (w.alloc (.cells (V.cells C.max) 29)) V C (h.below ((Below.refl w.heap.size w).alloc (Nat.le_refl _) _)) ok
  have HSF := Lib.hid (fun (wx : World) (hx : C.In wx V) (hy : RowE 1 encO wx sv st) => stateFits_any wx V C sv st hx hy)
  have HL : Hid ((checkR C).2 = 0 → C.latches.length ≤ 16384 ∧ ∀ z ∈ C.latches, 2 ≤ z.1 ∧ (z.2.2 = 0 ∨ z.2.2 = 1 ∨ z.2.2 = z.1)) := Lib.hid (fun h0 => ⟨(right_of h0).nl, fun z hz => by have := (right_of h0).l z hz; exact ⟨this.1.1, this.2.2⟩⟩)
  have hRL := h.l
  have hRS := hs
  obtain ⟨AL, cL, eL, hkl, hml, rL⟩ := hRL
  have hsl := hs.len
  have hall : ∀ wz, Below (w.alloc (.cells (V.cells C.max) 29)).heap.size (w.alloc (.cells (V.cells C.max) 29)) wz → Blk wz w.heap.size 29 (V.cells C.max) ∧ C.In wz V ∧ RowE 1 encO wz sv st ∧ Below w.heap.size w wz := fun wz hb => by
    have h1 : Below w.heap.size w wz := ((Below.refl w.heap.size w).alloc (Nat.le_refl _) _).trans (hb.mono (by simp))
    exact ⟨(Blk.new w _ _).below hb (by simp), h.below h1, hs.below h1, h1⟩
  have HX : Hid (Below (w.alloc (.cells (V.cells C.max) 29)).heap.size (w.alloc (.cells (V.cells C.max) 29)) (w.alloc (.cells (V.cells C.max) 29))) := Lib.hid (Below.refl _ _)
  obtain ⟨Vi, Vl, Vo, Vb, Vc, Vj, Vf, Va, Vs, Vt⟩ := V
  obtain ⟨m, hmm⟩ : ∃ m, C.max = m := ⟨_, rfl⟩
  simp only at eL
  subst eL
  obtain ⟨a, r, hrr⟩ : ∃ a r, checkR C = (a, r) := ⟨_, _, rfl⟩
  rw [hmm] at hall HX HSF hck
  rw [hrr] at hck
  rw [hmm]
  have HRR : Hid ((checkR C).2 = r) := Lib.hid (by rw [hrr])
  obtain ⟨sA, sc, rfl, _, _, rS⟩ := hRS
  have HALL := Lib.hid hall
  have HCK := Lib.hid hck
  have HRL := Lib.hid rL
  have HRS := Lib.hid rS
  have HNO := Lib.hid (fun (q : Nat) (z : Tri) (y : Bool) (a : C.latches[q]? = some z) (b : st[q]? = some y) => start_no a b)
  have HYES := Lib.hid (fun (q : Nat) (z : Tri) (y : Bool) (a : C.latches[q]? = some z) (b : st[q]? = some y) => start_yes a b)
  have HEND := Lib.hid (fun (n : Nat) (a : C.latches.length = n) => start_end (st := st) a)
  clear hall hck hmm h ok hs hrr rL rS
  unfold maxLen at hml hsl
  obtain ⟨c0, c1, c2, c3, c4, c5, c6, c7, c8, c9, c10⟩ := rbox_of (HALL.out _ HX.out).1
  by_cases h0 : r = 0
  · subst h0
    by_cases h1 : st.length = C.latches.length
    · have HE := Lib.hid (startE_ok HRR.out h1)
      have HB := Lib.hid (startB_ok HE.out)
      have hnl := (HL.out HRR.out).1
      have HLA := Lib.hid (HL.out HRR.out).2
      rw [decide_eq_true h1] at HSF
      rw [HB.out, HE.out]
      obtain ⟨n, hn⟩ : ∃ n, C.latches.length = n := ⟨_, rfl⟩
      have HN := Lib.hid hn
      have HLS := Lib.hid (h1.trans hn)
      rw [h1]
      rw [h1] at HALL HSF
      rw [hn] at hnl hkl HALL HSF HX HCK
      rw [hn]
      rw [hn] at c2
      clear h1 HB HE HL hn hsl
      generalize startsF C st = r at *
      go_enter Try.func33, Try.ntmps33
      go_upto_region 7 with (first
        | (go_at_call 31; refine HCK.out.mono ?_; rintro e w1 ⟨rfl, hb⟩; have HXN := Lib.hid (bt HX.out (Nat.le_refl _) hb); clear HX hb c0 c1 c2 c3 c4 c5 c6 c7 c8 c9 c10; have HX := HXN; clear HXN; obtain ⟨c0, c1, c2, c3, c4, c5, c6, c7, c8, c9, c10⟩ := rbox_of (HALL.out _ HX.out).1)
        | (go_at_call 81; refine (HSF.out _ (HALL.out _ HX.out).2.1 (HALL.out _ HX.out).2.2.1).mono ?_; rintro e w2 ⟨rfl, hb⟩; have HXN := Lib.hid (bt HX.out (Nat.le_refl _) hb); clear HX hb c0 c1 c2 c3 c4 c5 c6 c7 c8 c9 c10; have HX := HXN; clear HXN; obtain ⟨c0, c1, c2, c3, c4, c5, c6, c7, c8, c9, c10⟩ := rbox_of (HALL.out _ HX.out).1))
      go_wp2
      go_loopg [25] n (fun k j wx => ∃ q : Nat, q ≤ n ∧ k = n - q ∧ j = .int .i64 q ∧ ((C.latches.zip st).take q).all startP = true ∧ Below (w.alloc (.cells #[.int .i64 m, Vi, .slice AL n cL, Vo, Vb, Vc, Vj, Vf, Va, Vs, Vt] 29)).heap.size (w.alloc (.cells #[.int .i64 m, Vi, .slice AL n cL, Vo, Vb, Vc, Vj, Vf, Va, Vs, Vt] 29)) wx)
      case atStart => exact ⟨0, Nat.zero_le _, rfl, rfl, rfl, HX.out⟩
      case round =>
        obtain ⟨q, hq, hgk, rfl, hal, hbw⟩ := hrel
        subst hgk
        have HAL := Lib.hid hal
        have HBW := Lib.hid hbw
        clear hal hbw c0 c1 c2 c3 c4 c5 c6 c7 c8 c9 c10
        by_cases hlt : q < n
        · obtain ⟨z, hz⟩ : ∃ z, C.latches[q]? = some z := ⟨_, List.getElem?_eq_getElem (by rw [HN.out]; exact hlt)⟩
          obtain ⟨y, hy⟩ : ∃ y, st[q]? = some y := ⟨_, List.getElem?_eq_getElem (by rw [HLS.out]; exact hlt)⟩
          obtain ⟨b, off, e, hb, hcell⟩ := HRL.out q z hz
          subst e
          obtain ⟨b2, off2, e, hb2, hcell2⟩ := HRS.out q y hy
          subst e
          have HZ := Lib.hid (HLA.out z (List.mem_of_getElem? hz))
          have HN0 := Lib.hid (HNO.out q z y hz hy)
          have HY0 := Lib.hid (HYES.out q z y hz hy)
          obtain ⟨z0, z1, z2⟩ := z
          have hbl := (HALL.out _ HBW.out).2.2.2
          have h0 := (hbl.cell (p := ⟨b, off + (q * 3 + 0), none⟩) hb).trans (hcell 0 _ rfl)
          have h1 := (hbl.cell (p := ⟨b, off + (q * 3 + 1), none⟩) hb).trans (hcell 1 _ rfl)
          have h2 := (hbl.cell (p := ⟨b, off + (q * 3 + 2), none⟩) hb).trans (hcell 2 _ rfl)
          have hbX : Below w.heap.size w ((wr.alloc (.cells #[.int .i64 z0, .int .i64 z1, .int .i64 z2] 78)).drew) := (hbl.alloc hbl.size _).drew
          have h3 := (hbX.cell (p := ⟨b2, off2 + (q * 1 + 0), none⟩) hb2).trans (hcell2 0 _ rfl)
          have hnb : Blk ((wr.alloc (.cells #[.int .i64 z0, .int .i64 z1, .int .i64 z2] 78)).drew) wr.heap.size 78 #[.int .i64 z0, .int .i64 z1, .int .i64 z2] := (Blk.new wr _ _).drew
          have y0 := hnb.cell 0
          have y2 := hnb.cell 2
          simp only [List.getElem?_toArray, List.getElem?_cons_zero, List.getElem?_cons_succ] at y0 y2
          simp only [Nat.mul_one, Nat.add_zero, ← Nat.add_assoc] at h0 h1 h2 h3
          have HXA : Hid (Below (w.alloc (.cells #[.int .i64 m, Vi, .slice (some ⟨b, off, none⟩) n cL, Vo, Vb, Vc, Vj, Vf, Va, Vs, Vt] 29)).heap.size (w.alloc (.cells #[.int .i64 m, Vi, .slice (some ⟨b, off, none⟩) n cL, Vo, Vb, Vc, Vj, Vf, Va, Vs, Vt] 29)) ((wr.alloc (.cells #[.int .i64 z0, .int .i64 z1, .int .i64 z2] 78)).drew)) := Lib.hid ((HBW.out.alloc HBW.out.size _).drew)
          have hql : (q : Int) < (n : Int) := by omega
          have hql0 : (0 : Int) ≤ (q : Int) := by omega
          clear hcell hcell2 hz hy hbl hbX hnb
          obtain ⟨hz0, hzr⟩ := HZ.out
          simp only at hz0 hzr
          have hcases : (startP ((z0, z1, z2), y) = true ∧ (z2 = z0 ∨ (z2 ≠ z0 ∧ z2 = 0 ∧ y = false) ∨ (z2 ≠ z0 ∧ z2 = 1 ∧ y = true))) ∨ (startP ((z0, z1, z2), y) = false ∧ z2 ≠ z0 ∧ ((z2 = 0 ∧ y = true) ∨ (z2 = 1 ∧ y = false))) := by
            rcases hzr with rfl | rfl | rfl
            · have h5 : ¬ (0 = z0) := by omega
              cases y
              · exact .inl ⟨by simp [startP], .inr (.inl ⟨h5, rfl, rfl⟩)⟩
              · exact .inr ⟨by simp [startP, h5], h5, .inl ⟨rfl, rfl⟩⟩
            · have h5 : ¬ (1 = z0) := by omega
              cases y
              · exact .inr ⟨by simp [startP, h5], h5, .inr ⟨rfl, rfl⟩⟩
              · exact .inl ⟨by simp [startP], .inr (.inr ⟨h5, rfl, rfl⟩)⟩
            · exact .inl ⟨by simp [startP], .inl rfl⟩
          clear hz0 hzr
          rcases hcases with ⟨hp, hc⟩ | ⟨hp, hne, hc⟩
          · have HNX := Lib.hid (HY0.out hp HAL.out)
            clear hp
            rcases hc with rfl | ⟨hne, rfl, rfl⟩ | ⟨hne, rfl, rfl⟩
            · go_upto_region 9 with (fail)
              go_region
              go_wp2
              go_roundg (n - (q + 1))
              case measure => omega
              case rel => exact ⟨q + 1, by omega, rfl, by go_num, HNX.out, HXA.out⟩
            · have h7 : ((0 : Int) != z0) = true := by simpa using hne
              clear hne
              go_upto_region 9 with (fail)
              go_region
              go_wp2
              go_roundg (n - (q + 1))
              case measure => omega
              case rel => exact ⟨q + 1, by omega, rfl, by go_num, HNX.out, HXA.out⟩
            · have h7 : ((1 : Int) != z0) = true := by simpa using hne
              clear hne
              go_upto_region 9 with (fail)
              go_region
              go_wp2
              go_roundg (n - (q + 1))
              case measure => omega
              case rel => exact ⟨q + 1, by omega, rfl, by go_num, HNX.out, HXA.out⟩
          · have HR := Lib.hid (HN0.out hp)
            clear hp
            rcases hc with ⟨rfl, rfl⟩ | ⟨rfl, rfl⟩
            · have h7 : ((0 : Int) != z0) = true := by simpa using hne
              clear hne
              go_upto_region 9 with (fail)
              go_region
              go_wp2
              go_ret2
              exact ⟨two_ret HR.out.symm rfl, (HALL.out _ HXA.out).2.2.2⟩
            · have h7 : ((1 : Int) != z0) = true := by simpa using hne
              clear hne
              go_upto_region 9 with (fail)
              go_region
              go_wp2
              go_ret2
              exact ⟨two_ret HR.out.symm rfl, (HALL.out _ HXA.out).2.2.2⟩
        · have hqe : n = q := by omega
          subst hqe
          have HR := Lib.hid (HEND.out _ HN.out HAL.out)
          clear hlt hq
          go_wp2
          go_ret2
          exact ⟨two_ret HR.out.symm rfl, (HALL.out _ HBW.out).2.2.2⟩
    · have HE := Lib.hid (startE_not HRR.out h1)
      have HB := Lib.hid (startB_not (C := C) (st := st) (by rw [HE.out]; decide))
      rw [decide_eq_false h1] at HSF
      clear h1
      go_enter Try.func33, Try.ntmps33
      go_wp2_with (first
        | (go_at_call 31; refine HCK.out.mono ?_; rintro e w1 ⟨rfl, hb⟩; have HXN := Lib.hid (bt HX.out (Nat.le_refl _) hb); clear HX hb c0 c1 c2 c3 c4 c5 c6 c7 c8 c9 c10; have HX := HXN; clear HXN; obtain ⟨c0, c1, c2, c3, c4, c5, c6, c7, c8, c9, c10⟩ := rbox_of (HALL.out _ HX.out).1)
        | (go_at_call 81; refine (HSF.out _ (HALL.out _ HX.out).2.1 (HALL.out _ HX.out).2.2.1).mono ?_; rintro e w2 ⟨rfl, hb⟩; have HXN := Lib.hid (bt HX.out (Nat.le_refl _) hb); clear HX hb c0 c1 c2 c3 c4 c5 c6 c7 c8 c9 c10; have HX := HXN; clear HXN; obtain ⟨c0, c1, c2, c3, c4, c5, c6, c7, c8, c9, c10⟩ := rbox_of (HALL.out _ HX.out).1))
      go_ret2
      exact ⟨two_ret HB.out.symm HE.out.symm, (HALL.out _ HX.out).2.2.2⟩
  · have hq : (r != 0) = true := by simpa using h0
    have HE : Hid (startE C st = r) := Lib.hid (by rw [startE_bad (by rw [HRR.out]; exact h0), HRR.out])
    have HB := Lib.hid (startB_not (C := C) (st := st) (by rw [HE.out]; exact h0))
    clear h0
    go_enter Try.func33, Try.ntmps33
    go_wp2_with (go_at_call 31; refine HCK.out.mono ?_; rintro e w1 ⟨rfl, hb⟩; have HXN := Lib.hid (bt HX.out (Nat.le_refl _) hb); clear HX hb c0 c1 c2 c3 c4 c5 c6 c7 c8 c9 c10; have HX := HXN; clear HXN; obtain ⟨c0, c1, c2, c3, c4, c5, c6, c7, c8, c9, c10⟩ := rbox_of (HALL.out _ HX.out).1)
    go_ret2
    exact ⟨two_ret HB.out.symm HE.out.symm, (HALL.out _ HX.out).2.2.2⟩
end Go.Proofs.Ytilbgopdciiadaa
