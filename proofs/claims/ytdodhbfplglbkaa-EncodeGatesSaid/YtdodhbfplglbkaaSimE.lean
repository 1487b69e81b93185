/- Sim: the contracts of the program's calls Values, Next, Holds. -/
import Derived.Test.YtdodhbfplglbkaaSimB
import Derived.Test.YtdodhbfplglbkaaRfO
namespace Go.Proofs.Ytdodhbfplglbkaa
open Go.RowKit

/-- The one order of a right circuit's gates. -/
structure IsOrd (C : Circ) (O : List Int) : Prop where
  g : Greedy (usesC C) O
  l : O.length = C.ands.length
theorem IsOrd.same {C : Circ} {O P : List Int} (h : IsOrd C O) (g : Greedy (usesC C) P) (l : P.length = C.ands.length) : P = O := greedy_same _ g h.g l h.l
theorem IsOrd.inR {C : Circ} {O : List Int} (h : IsOrd C O) : ∀ x ∈ O, 0 ≤ x ∧ x < (C.ands.length : Int) := fun x hx => by
  have := h.g.inR x hx
  unfold InR at this
  rw [usesC_len] at this
  exact this
theorem ord_ex {w : World} {V : CV} {C : Circ} (h : C.In w V) (ok : C.Ok) : ∃ O, (checkR C).2 = 0 → IsOrd C O := by
  obtain ⟨e, w', fr, ⟨_, v, out, _, _, hr⟩, _⟩ := Order_any w V C h ok []
  exact ⟨out, fun h0 => ⟨(hr h0).2.1, (hr h0).2.2⟩⟩
/-- What lies in a block that the call has made itself, besides the circuit's box. -/
structure NS (w0 wr : World) (bx g : Nat) (cs : Array Value) (T : List Bool) : Prop where
  below : Below w0.heap.size w0 wr
  box : Blk wr bx 29 cs
  tab : Tab wr g T
theorem NS.alloc {w0 wr : World} {bx g : Nat} {cs : Array Value} {T : List Bool} (h : NS w0 wr bx g cs T) (o : Obj) : NS w0 (wr.alloc o) bx g cs T := ⟨h.below.alloc h.below.size o, h.box.alloc o, Blk.alloc h.tab o⟩
theorem NS.set_ {w0 wr : World} {bx g : Nat} {cs : Array Value} {T : List Bool} (h : NS w0 wr bx g cs T) (hB : w0.heap.size ≤ g) (hx : bx ≠ g) (i : Nat) (b : Bool) : NS w0 (wr.setCell ⟨g, i, none⟩ (.bool b)) bx g cs (T.set i b) :=
  ⟨h.below.setCell hB _, Blk.far h.box (by simpa using hx) _, Tab.set_ h.tab i b⟩

end Go.Proofs.Ytdodhbfplglbkaa

namespace Go.Proofs.Ytdodhbfplglbkaa
open Go.RowKit

/-- What is refused of a state and a row. -/
def fitE (C : Circ) (st row : List Bool) : Int := if (checkR C).2 = 0 then (if st.length = C.latches.length ∧ row.length = C.inputs.length then 0 else 4) else (checkR C).2
theorem slO_form {w : World} {v : Value} {t : List Bool} (h : RowE 1 encO w v t) : ∃ A n c, v = .slice A n c := by
  obtain ⟨A, c, e, _⟩ := h
  exact ⟨A, _, c, e⟩
theorem fitE_ok {C : Circ} {st row : List Bool} (h : fitE C st row = 0) : (checkR C).2 = 0 ∧ st.length = C.latches.length ∧ row.length = C.inputs.length := by
  unfold fitE at h
  by_cases h0 : (checkR C).2 = 0
  · rw [if_pos h0] at h
    by_cases h1 : st.length = C.latches.length ∧ row.length = C.inputs.length
    · exact ⟨h0, h1⟩
    · rw [if_neg h1] at h; cases h
  · rw [if_neg h0] at h; exact absurd h h0
theorem fitE_not {C : Circ} {st row : List Bool} (h : (checkR C).2 = 0) (h1 : ¬ (st.length = C.latches.length ∧ row.length = C.inputs.length)) : fitE C st row = 4 := by unfold fitE; rw [if_pos h, if_neg h1]
theorem fitE_bad {C : Circ} {st row : List Bool} (h : (checkR C).2 ≠ 0) : fitE C st row = (checkR C).2 := by unfold fitE; rw [if_neg h]
theorem fitE_yes {C : Circ} {st row : List Bool} (h : (checkR C).2 = 0) (h1 : st.length = C.latches.length) (h2 : row.length = C.inputs.length) : fitE C st row = 0 := by unfold fitE; rw [if_pos h, if_pos ⟨h1, h2⟩]

set_option maxHeartbeats 4000000 in
set_option maxRecDepth 100000 in
theorem Values_any (w : World) (V : CV) (C : Circ) (sv rv : Value) (st row : List Bool) (O : List Int) (h : C.In w V) (ok : C.Ok) (hs : RowE 1 encO w sv st) (hr : RowE 1 encO w rv row) (hO : (checkR C).2 = 0 → IsOrd C O) :
    Calls Try.prog 111 #[V.val C.max, sv, rv] w fun e w' => Below w.heap.size w w' ∧ ∃ v, e = .returned (.tuple #[v, .int .i64 (fitE C st row)]) ∧ (fitE C st row ≠ 0 → v = .slice none 0 0) ∧
      (fitE C st row = 0 → ∃ g, v = .slice (some ⟨g, 0, none⟩) (C.max.toNat + 1) (C.max.toNat + 1) ∧ w.heap.size ≤ g ∧ Tab w' g (valF C O st row)) := by
  have hord := Order_any (w.alloc (.cells (V.cells C.max) 29)) V C (h.below ((Below.refl w.heap.size w).alloc (Nat.le_refl _) _)) ok
  have HSF := Lib.hid (fun (wx : World) (hx : C.In wx V) (hy : RowE 1 encO wx sv st) => stateFits_any wx V C sv st hx hy)
  have HRF := Lib.hid (fun (wx : World) (hx : C.In wx V) (hy : RowE 1 encO wx rv row) => rowFits_any wx V C rv row hx hy)
  have HVO := Lib.hid (fun (wx : World) (gv : Value) (hx : C.In wx V) (hg : RowE 1 encI wx gv O) (hy : RowE 1 encO wx sv st) (hz : RowE 1 encO wx rv row) (h0 : fitE C st row = 0) =>
    valuesOf_any wx V C gv sv rv O st row hx hg hy hz (right_of (fitE_ok h0).1) (fitE_ok h0).2.1 (fitE_ok h0).2.2 (hO (fitE_ok h0).1).inR (by rw [(hO (fitE_ok h0).1).l]; exact (right_of (fitE_ok h0).1).na))
  have hall : ∀ wz, Below (w.alloc (.cells (V.cells C.max) 29)).heap.size (w.alloc (.cells (V.cells C.max) 29)) wz → Blk wz w.heap.size 29 (V.cells C.max) ∧ C.In wz V ∧ RowE 1 encO wz sv st ∧ RowE 1 encO wz rv row ∧ Below w.heap.size w wz := fun wz hb => by
    have h1 : Below w.heap.size w wz := ((Below.refl w.heap.size w).alloc (Nat.le_refl _) _).trans (hb.mono (by simp))
    exact ⟨(Blk.new w _ _).below hb (by simp), h.below h1, hs.below h1, hr.below h1, h1⟩
  have HX : Hid (Below (w.alloc (.cells (V.cells C.max) 29)).heap.size (w.alloc (.cells (V.cells C.max) 29)) (w.alloc (.cells (V.cells C.max) 29))) := Lib.hid (Below.refl _ _)
  obtain ⟨Vi, Vl, Vo, Vb, Vc, Vj, Vf, Va, Vs, Vt⟩ := V
  obtain ⟨m, hmm⟩ : ∃ m, C.max = m := ⟨_, rfl⟩
  obtain ⟨r, hrr⟩ : ∃ r, (checkR C).2 = r := ⟨_, rfl⟩
  rw [hmm] at hall HX HSF HRF HVO hord
  rw [hrr] at hord
  rw [hmm]
  obtain ⟨sA, sn, sc, esv⟩ := slO_form hs
  obtain ⟨rA, rn, rc, erv⟩ := slO_form hr
  subst esv erv
  have HALL := Lib.hid hall
  have HORD := Lib.hid hord
  have HO := Lib.hid hO
  have HRR := Lib.hid hrr
  clear hall hord hO hmm h ok hs hr
  obtain ⟨c0, c1, c2, c3, c4, c5, c6, c7, c8, c9, c10⟩ := rbox_of (HALL.out _ HX.out).1
  by_cases h0 : r = 0
  · subst h0
    have HRT := Lib.hid (right_of HRR.out)
    by_cases h1 : st.length = C.latches.length
    · by_cases h2 : row.length = C.inputs.length
      · have HF := Lib.hid (fitE_yes HRR.out h1 h2)
        rw [decide_eq_true h1] at HSF
        rw [decide_eq_true h2] at HRF
        clear h1 h2 hrr
        rw [HF.out]
        go_enter Try.func111, Try.ntmps111
        go_wp2_with (first
          | (go_at_call 51; refine HORD.out.mono ?_; rintro e w1 ⟨hb, v1, out1, rfl, _, hyes⟩; obtain ⟨ho1, hg1, hl1⟩ := hyes rfl; obtain rfl := (HO.out HRR.out).same hg1 hl1; have HO1 := Lib.hid (own_rowe lenI (by rw [flat_ints]; exact ho1)); have HXA := Lib.hid (Below.refl w1.heap.size w1); clear hyes ho1 hg1 hl1; have HXN := Lib.hid (bt HX.out (Nat.le_refl _) hb); clear HX hb c0 c1 c2 c3 c4 c5 c6 c7 c8 c9 c10; have HX := HXN; clear HXN; obtain ⟨c0, c1, c2, c3, c4, c5, c6, c7, c8, c9, c10⟩ := rbox_of (HALL.out _ HX.out).1)
          | (go_at_call 115; refine (HSF.out _ (HALL.out _ HX.out).2.1 (HALL.out _ HX.out).2.2.1).mono ?_; rintro e w2 ⟨rfl, hb⟩; have HO2 := Lib.hid (HO1.out.below hb); have HXN := Lib.hid (bt HX.out (Nat.le_refl _) hb); clear HX hb c0 c1 c2 c3 c4 c5 c6 c7 c8 c9 c10; have HX := HXN; clear HXN; obtain ⟨c0, c1, c2, c3, c4, c5, c6, c7, c8, c9, c10⟩ := rbox_of (HALL.out _ HX.out).1)
          | (go_at_call 139; refine (HRF.out _ (HALL.out _ HX.out).2.1 (HALL.out _ HX.out).2.2.2.1).mono ?_; rintro e w3 ⟨rfl, hb⟩; have HO3 := Lib.hid (HO2.out.below hb); have HXN := Lib.hid (bt HX.out (Nat.le_refl _) hb); clear HX hb c0 c1 c2 c3 c4 c5 c6 c7 c8 c9 c10; have HX := HXN; clear HXN; obtain ⟨c0, c1, c2, c3, c4, c5, c6, c7, c8, c9, c10⟩ := rbox_of (HALL.out _ HX.out).1)
          | (go_at_call 119; refine (HVO.out _ _ (HALL.out _ HX.out).2.1 HO3.out (HALL.out _ HX.out).2.2.1 (HALL.out _ HX.out).2.2.2.1 HF.out).mono ?_; rintro e w4 ⟨g, rfl, hg4, hb, ht4⟩; have HG4 := Lib.hid (And.intro (Nat.le_trans (HALL.out _ HX.out).2.2.2.2.size hg4) ht4); clear hg4 ht4; have HXN := Lib.hid (bt HX.out (Nat.le_refl _) hb); clear HX hb c0 c1 c2 c3 c4 c5 c6 c7 c8 c9 c10; have HX := HXN; clear HXN; obtain ⟨c0, c1, c2, c3, c4, c5, c6, c7, c8, c9, c10⟩ := rbox_of (HALL.out _ HX.out).1))
        go_ret2
        exact ⟨(HALL.out _ HX.out).2.2.2.2, _, rfl, fun h => absurd rfl h, fun _ => ⟨g, rfl, HG4.out.1, HG4.out.2⟩⟩
      · have HF := Lib.hid (fitE_not (C := C) (st := st) (row := row) HRR.out (fun h => h2 h.2))
        rw [decide_eq_true h1] at HSF
        rw [decide_eq_false h2] at HRF
        clear h1 h2 hrr HVO
        rw [HF.out]
        go_enter Try.func111, Try.ntmps111
        go_wp2_with (first
          | (go_at_call 51; refine HORD.out.mono ?_; rintro e w1 ⟨hb, v1, out1, rfl, _, _⟩; have HXN := Lib.hid (bt HX.out (Nat.le_refl _) hb); clear HX hb c0 c1 c2 c3 c4 c5 c6 c7 c8 c9 c10; have HX := HXN; clear HXN; obtain ⟨c0, c1, c2, c3, c4, c5, c6, c7, c8, c9, c10⟩ := rbox_of (HALL.out _ HX.out).1)
          | (go_at_call 115; refine (HSF.out _ (HALL.out _ HX.out).2.1 (HALL.out _ HX.out).2.2.1).mono ?_; rintro e w2 ⟨rfl, hb⟩; have HXN := Lib.hid (bt HX.out (Nat.le_refl _) hb); clear HX hb c0 c1 c2 c3 c4 c5 c6 c7 c8 c9 c10; have HX := HXN; clear HXN; obtain ⟨c0, c1, c2, c3, c4, c5, c6, c7, c8, c9, c10⟩ := rbox_of (HALL.out _ HX.out).1)
          | (go_at_call 139; refine (HRF.out _ (HALL.out _ HX.out).2.1 (HALL.out _ HX.out).2.2.2.1).mono ?_; rintro e w3 ⟨rfl, hb⟩; have HXN := Lib.hid (bt HX.out (Nat.le_refl _) hb); clear HX hb c0 c1 c2 c3 c4 c5 c6 c7 c8 c9 c10; have HX := HXN; clear HXN; obtain ⟨c0, c1, c2, c3, c4, c5, c6, c7, c8, c9, c10⟩ := rbox_of (HALL.out _ HX.out).1))
        go_ret2
        exact ⟨(HALL.out _ HX.out).2.2.2.2, _, rfl, fun _ => rfl, fun h => absurd h (by decide)⟩
    · have HF := Lib.hid (fitE_not (C := C) (st := st) (row := row) HRR.out (fun h => h1 h.1))
      rw [decide_eq_false h1] at HSF
      clear h1 hrr HVO
      rw [HF.out]
      go_enter Try.func111, Try.ntmps111
      go_wp2_with (first
        | (go_at_call 51; refine HORD.out.mono ?_; rintro e w1 ⟨hb, v1, out1, rfl, _, _⟩; have HXN := Lib.hid (bt HX.out (Nat.le_refl _) hb); clear HX hb c0 c1 c2 c3 c4 c5 c6 c7 c8 c9 c10; have HX := HXN; clear HXN; obtain ⟨c0, c1, c2, c3, c4, c5, c6, c7, c8, c9, c10⟩ := rbox_of (HALL.out _ HX.out).1)
        | (go_at_call 115; refine (HSF.out _ (HALL.out _ HX.out).2.1 (HALL.out _ HX.out).2.2.1).mono ?_; rintro e w2 ⟨rfl, hb⟩; have HXN := Lib.hid (bt HX.out (Nat.le_refl _) hb); clear HX hb c0 c1 c2 c3 c4 c5 c6 c7 c8 c9 c10; have HX := HXN; clear HXN; obtain ⟨c0, c1, c2, c3, c4, c5, c6, c7, c8, c9, c10⟩ := rbox_of (HALL.out _ HX.out).1))
      go_ret2
      exact ⟨(HALL.out _ HX.out).2.2.2.2, _, rfl, fun _ => rfl, fun h => absurd h (by decide)⟩
  · have hq : (r != 0) = true := by simpa using h0
    have HF : Hid (fitE C st row = r) := Lib.hid (by rw [fitE_bad (by rw [HRR.out]; exact h0), HRR.out])
    have H0 := Lib.hid h0
    clear h0 hrr HVO
    rw [HF.out]
    go_enter Try.func111, Try.ntmps111
    go_wp2_with (go_at_call 51; refine HORD.out.mono ?_; rintro e w1 ⟨hb, v1, out1, rfl, _, _⟩; have HXN := Lib.hid (bt HX.out (Nat.le_refl _) hb); clear HX hb c0 c1 c2 c3 c4 c5 c6 c7 c8 c9 c10; have HX := HXN; clear HXN; obtain ⟨c0, c1, c2, c3, c4, c5, c6, c7, c8, c9, c10⟩ := rbox_of (HALL.out _ HX.out).1)
    go_ret2
    exact ⟨(HALL.out _ HX.out).2.2.2.2, _, rfl, fun _ => rfl, fun h => absurd h H0.out⟩

end Go.Proofs.Ytdodhbfplglbkaa
