/- Hash: the contracts of the document's or, And, Or, Xor, Mux, New. -/
import Derived.Test.YtilbgopdciiadaaHshD
namespace Go.Proofs.Ytilbgopdciiadaa
open Go.RowKit Go.Maps

def FootR (cx : Nat) (gv : Value) (k : Nat) : Prop := k = cx ∨ gv.ownBlock = some k
structure HRm (w : World) (cx : Nat) (gv : Value) (b : Bd) : Prop where
  box : Blk w cx 145 #[.int .i64 b.i, .int .i64 b.l, gv]
  row : w.ownsRow 0 80 3 gv b.g.length (b.tris.flatMap encT)
  ok : b.Ok
def HR (w : World) (cx : Nat) (b : Bd) (F : Nat → Prop) : Prop := ∃ gv, HRm w cx gv b ∧ F = FootR cx gv
def DidR (w w' : World) (cx : Nat) (F : Nat → Prop) (b : Bd) : Prop := ∃ F', HR w' cx b F' ∧ But F w w' ∧ ∀ k, F' k → F k ∨ w.heap.size ≤ k
section
variable {w w' w2 : World} {cx : Nat} {gv : Value} {b b' : Bd} {F G : Nat → Prop}
theorem HRm.lt (h : HRm w cx gv b) {k : Nat} (hk : FootR cx gv k) : k < w.heap.size := by
  rcases hk with e | e
  · subst e; exact h.box.lt
  · exact (h.row.lt k e).2
theorem HRm.but (h : HRm w cx gv b) (hb : But G w w') (ha : ∀ k, FootR cx gv k → ¬ G k) : HRm w' cx gv b :=
  ⟨hb.blk h.box (ha cx (.inl rfl)), own_of_block h.row (fun g hg => hb.block g (h.row.lt g hg).2 (ha g (.inr hg))), h.ok⟩
theorem HRm.below (h : HRm w cx gv b) (hb : Below w.heap.size w w') : HRm w' cx gv b := h.but (G := fun _ => False) (But.of_below hb) (fun _ _ h => h)
theorem HR.lt (h : HR w cx b F) {k : Nat} (hk : F k) : k < w.heap.size := by
  obtain ⟨gv, h1, rfl⟩ := h
  exact h1.lt hk
theorem HR.ok (h : HR w cx b F) : b.Ok := by
  obtain ⟨gv, h1, rfl⟩ := h
  exact h1.ok
theorem HR.but (h : HR w cx b F) (hb : But G w w') (ha : ∀ k, F k → ¬ G k) : HR w' cx b F := by
  obtain ⟨gv, h1, rfl⟩ := h
  exact ⟨gv, h1.but hb ha, rfl⟩
theorem HR.below (h : HR w cx b F) (hb : Below w.heap.size w w') : HR w' cx b F := h.but (G := fun _ => False) (But.of_below hb) (fun _ _ h => h)
theorem DidR.of_below (h : HR w cx b F) (hb : Below w.heap.size w w') : DidR w w' cx F b := ⟨F, h.below hb, But.of_below hb, fun _ h => .inl h⟩
theorem DidR.step (hb : But F w w') (hf : ∀ k, G k → F k ∨ w.heap.size ≤ k) (k : DidR w' w2 cx G b') : DidR w w2 cx F b' := by
  obtain ⟨F2, k1, k2, k3⟩ := k
  exact ⟨F2, k1, hb.trans k2 hf, fun x hx => by
    rcases k3 x hx with q | q
    · exact hf x q
    · exact .inr (Nat.le_trans hb.size q)⟩
theorem DidR.pre (k : Below w.heap.size w w') (h : DidR w' w2 cx F b) : DidR w w2 cx F b := DidR.step (But.of_below k) (fun _ h => .inl h) h
theorem HR.cells (h : HR w cx b F) : ∃ A c, Blk w cx 145 #[.int .i64 b.i, .int .i64 b.l, .slice A b.g.length c] ∧ RowE 3 encT w (.slice A b.g.length c) b.tris := by
  obtain ⟨gv, h1, rfl⟩ := h
  obtain ⟨A, c, e⟩ := own_slice_k h1.row
  subst e
  refine ⟨A, c, h1.box, own_rowe (t := 80) (B := 0) lenT ?_⟩
  rw [tris_len]
  exact h1.row
end

set_option maxHeartbeats 2000000 in
set_option maxRecDepth 100000 in
theorem rMax_any (w : World) (cx : Nat) (b : Bd) (F : Nat → Prop) (h : HR w cx b F) :
    Calls Try.prog 97 #[.pointer (some ⟨cx, 0, none⟩)] w fun e w' => e = .returned (.int .i64 b.last) ∧ Below w.heap.size w w' := by
  have hl := h.ok.last
  obtain ⟨A, c, h1, _⟩ := h.cells
  have k0 := h1.cell 0
  have k1 := h1.cell 1
  have k2 := h1.cell 2
  obtain ⟨i, l, g⟩ := b
  obtain ⟨n, hn⟩ : ∃ n, g.length = n := ⟨_, rfl⟩
  simp only [Bd.last, hn] at hl
  simp only [hn, List.getElem?_toArray, List.getElem?_cons_zero, List.getElem?_cons_succ] at k0 k1 k2
  have e1 : IntKind.i64.wrap ((i : Int) + (l : Int)) = (i : Int) + (l : Int) := by simp [IntKind.wrap, IntKind.bits, IntKind.signed]; omega
  have e2 : IntKind.i64.wrap ((i : Int) + (l : Int) + (n : Int)) = (i : Int) + (l : Int) + (n : Int) := by simp [IntKind.wrap, IntKind.bits, IntKind.signed]; omega
  have HN := Lib.hid hn
  have HB0 : Hid (Below w.heap.size w w.drew) := Lib.hid (Below.refl _ _).drew
  clear h1 hn hl h
  go_enter Try.func97, Try.ntmps97
  go_upto_region 1 with (fail)
  go_region
  go_wp2
  go_ret
  exact ⟨by unfold Bd.last; rw [HN.out]; push_cast; rfl, HB0.out⟩

set_option maxHeartbeats 2000000 in
set_option maxRecDepth 100000 in
theorem rInput_any (w : World) (cx : Nat) (b : Bd) (F : Nat → Prop) (i : Int) (h : HR w cx b F) :
    Calls Try.prog 94 #[.pointer (some ⟨cx, 0, none⟩), .int .i64 i] w fun e w' => e = .returned (.tuple #[.int .i64 (inE b.i i).1, .int .i64 (inE b.i i).2]) ∧ w' = w := by
  obtain ⟨A, c, hb, _⟩ := h.cells
  have hl := h.ok.last
  have hi : b.i ≤ 16384 := by unfold Bd.last at hl; omega
  have k0 := hb.cell 0
  simp only [List.getElem?_toArray, List.getElem?_cons_zero] at k0
  obtain ⟨n, hn⟩ : ∃ n, b.i = n := ⟨_, rfl⟩
  rw [hn] at k0 hi ⊢
  clear hb h hl hn
  by_cases h0 : i < 0
  · rw [show inE n i = (0, 5) by unfold inE; rw [if_neg (by omega)]]
    go_enter Try.func94, Try.ntmps94
    go_wp2
    go_ret2
    exact ⟨rfl, rfl⟩
  · by_cases h1 : (n : Int) ≤ i
    · rw [show inE n i = (0, 5) by unfold inE; rw [if_neg (by omega)]]
      go_enter Try.func94, Try.ntmps94
      go_wp2
      go_ret2
      exact ⟨rfl, rfl⟩
    · rw [show inE n i = (2 * (i + 1), 0) by unfold inE; rw [if_pos (by omega)]; congr 1; omega]
      have e1 : IntKind.i64.wrap (i + 1) = i + 1 := by simp [IntKind.wrap, IntKind.bits, IntKind.signed]; omega
      have e2 : IntKind.i64.wrap (2 * (i + 1)) = 2 * (i + 1) := by simp [IntKind.wrap, IntKind.bits, IntKind.signed]; omega
      go_enter Try.func94, Try.ntmps94
      go_wp2
      go_ret2
      exact ⟨rfl, rfl⟩
set_option maxHeartbeats 2000000 in
set_option maxRecDepth 100000 in
theorem rLatch_any (w : World) (cx : Nat) (b : Bd) (F : Nat → Prop) (i : Int) (h : HR w cx b F) :
    Calls Try.prog 95 #[.pointer (some ⟨cx, 0, none⟩), .int .i64 i] w fun e w' => e = .returned (.tuple #[.int .i64 (laE b.i b.l i).1, .int .i64 (laE b.i b.l i).2]) ∧ w' = w := by
  obtain ⟨A, c, hb, _⟩ := h.cells
  have hl := h.ok.last
  have hi : b.i + b.l ≤ 16384 := by unfold Bd.last at hl; omega
  have k0 := hb.cell 0
  have k1 := hb.cell 1
  simp only [List.getElem?_toArray, List.getElem?_cons_zero, List.getElem?_cons_succ] at k0 k1
  obtain ⟨n, hn⟩ : ∃ n, b.i = n := ⟨_, rfl⟩
  obtain ⟨k, hk⟩ : ∃ n, b.l = n := ⟨_, rfl⟩
  rw [hn] at k0 hi ⊢
  rw [hk] at k1 hi ⊢
  clear hb h hl hn hk
  by_cases h0 : i < 0
  · rw [show laE n k i = (0, 5) by unfold laE; rw [if_neg (by omega)]]
    go_enter Try.func95, Try.ntmps95
    go_wp2
    go_ret2
    exact ⟨rfl, rfl⟩
  · by_cases h1 : (k : Int) ≤ i
    · rw [show laE n k i = (0, 5) by unfold laE; rw [if_neg (by omega)]]
      go_enter Try.func95, Try.ntmps95
      go_wp2
      go_ret2
      exact ⟨rfl, rfl⟩
    · rw [show laE n k i = (2 * ((n : Int) + i + 1), 0) by unfold laE; rw [if_pos (by omega)]; congr 1; omega]
      have e0 : IntKind.i64.wrap ((n : Int) + i) = (n : Int) + i := by simp [IntKind.wrap, IntKind.bits, IntKind.signed]; omega
      have e1 : IntKind.i64.wrap ((n : Int) + i + 1) = (n : Int) + i + 1 := by simp [IntKind.wrap, IntKind.bits, IntKind.signed]; omega
      have e2 : IntKind.i64.wrap (2 * ((n : Int) + i + 1)) = 2 * ((n : Int) + i + 1) := by simp [IntKind.wrap, IntKind.bits, IntKind.signed]; omega
      go_enter Try.func95, Try.ntmps95
      go_wp2
      go_ret2
      exact ⟨rfl, rfl⟩
set_option maxHeartbeats 8000000 in
set_option maxRecDepth 100000 in
theorem rAnd0_any (w : World) (cx : Nat) (b : Bd) (F : Nat → Prop) (l k : Int) (h : HR w cx b F) (hl : b.has l = true) (hk : b.has k = true) :
    Calls Try.prog 96 #[.pointer (some ⟨cx, 0, none⟩), .int .i64 l, .int .i64 k] w fun e w' => e = .returned (.tuple #[.int .i64 (b.and_ l k).1.1, .int .i64 (b.and_ l k).1.2]) ∧ DidR w w' cx F (b.and_ l k).2 := by
  have HH := Lib.hid h
  have HMAX := Lib.hid (rMax_any w cx b F h)
  have hX := has_max hl hk
  have hx1 := has_iff.1 hl
  have hy1 := has_iff.1 hk
  have hlast := h.ok.last
  obtain ⟨X, hXe⟩ : ∃ X, max l k = X := ⟨_, rfl⟩
  obtain ⟨Y, hYe⟩ : ∃ Y, min l k = Y := ⟨_, rfl⟩
  rw [hXe] at hX
  have hYX : Y ≤ X := by omega
  have hY0 : 0 ≤ Y := by omega
  have hX1 : X ≤ 32769 := by omega
  have HA2 : Hid (b.and_ l k = b.and2 X Y) := Lib.hid (by unfold Bd.and_; rw [hXe, hYe])
  rw [HA2.out]
  have HX := Lib.hid hX
  clear hl hk hX hx1 hy1
  by_cases hy0 : Y = 0
  · have HR0 : Hid (b.and2 X Y = ((0, 0), b)) := Lib.hid (by unfold Bd.and2; rw [if_pos (.inl hy0)])
    rw [HR0.out]
    simp only
    rw [hy0] at hYe
    clear h
    go_enter Try.func96, Try.ntmps96
    go_wp2
    go_ret2
    exact ⟨rfl, DidR.of_below HH.out (Below.refl _ _)⟩
  · have hb0 : (Y == 0) = false := by simpa using hy0
    by_cases hyo : Y = 1
    · have HR0 : Hid (b.and2 X Y = ((X, 0), b)) := Lib.hid (by unfold Bd.and2; rw [if_neg (by omega), if_pos (.inl hyo)])
      rw [HR0.out]
      simp only
      rw [hyo] at hYe hb0
      clear h
      go_enter Try.func96, Try.ntmps96
      go_wp2
      go_ret2
      exact ⟨rfl, DidR.of_below HH.out (Below.refl _ _)⟩
    · have hb1 : (Y == 1) = false := by simpa using hyo
      by_cases hxy : X = Y
      · have HR0 : Hid (b.and2 X Y = ((X, 0), b)) := Lib.hid (by unfold Bd.and2; rw [if_neg (by omega), if_pos (.inr hxy)])
        rw [HR0.out]
        simp only
        rw [← hxy] at hYe hb0 hb1
        clear h hyo hxy
        go_enter Try.func96, Try.ntmps96
        go_wp2
        go_ret2
        exact ⟨rfl, DidR.of_below HH.out (Below.refl _ _)⟩
      · have hbx : (X == Y) = false := by simpa using hxy
        have ew : IntKind.i64.wrap (Y + 1) = Y + 1 := by simp [IntKind.wrap, IntKind.bits, IntKind.signed]; omega
        have em : Y.tmod 2 = Y % 2 := Int.tmod_eq_emod_of_nonneg hY0
        have emw : IntKind.i64.wrap (Y % 2) = Y % 2 := by simp [IntKind.wrap, IntKind.bits, IntKind.signed]; omega
        by_cases hn : X = Y + 1 ∧ Y % 2 = 0
        · have HR0 : Hid (b.and2 X Y = ((0, 0), b)) := Lib.hid (by unfold Bd.and2; rw [if_pos (.inr hn)])
          rw [HR0.out]
          simp only
          obtain ⟨hn1, hn2⟩ := hn
          rw [hn2] at em emw
          have hq1 : (X == Y + 1) = true := by simpa using hn1
          clear h hyo hxy hn1 hn2
          go_enter Try.func96, Try.ntmps96
          go_wp2
          go_ret2
          exact ⟨rfl, DidR.of_below HH.out (Below.refl _ _)⟩
        · have HG : Hid (b.and2 X Y = b.gate X Y) := Lib.hid (by unfold Bd.and2; rw [if_neg (by omega), if_neg (by omega)])
          rw [HG.out]
          have h12 : 2 ≤ Y ∧ Y < X ∧ X / 2 ≠ Y / 2 := by omega
          obtain ⟨r2, hr2⟩ : ∃ r, Y % 2 = r := ⟨_, rfl⟩
          rw [hr2] at em emw
          have hq : (X == Y + 1) = false ∨ ((X == Y + 1) = true ∧ (r2 == 0) = false) := by
            by_cases e1 : X = Y + 1
            · refine .inr ⟨by simpa using e1, ?_⟩
              have : r2 ≠ 0 := by omega
              simpa using this
            · exact .inl (by simpa using e1)
          obtain ⟨A, c, hbox, hrow⟩ := h.cells
          obtain ⟨A', cap', ev, _, _, hrun⟩ := hrow
          injection ev with ev1 _ ev3
          subst ev1 ev3
          have HRUN := Lib.hid hrun
          have k2 := hbox.cell 2
          simp only [List.getElem?_toArray, List.getElem?_cons_zero, List.getElem?_cons_succ] at k2
          obtain ⟨n, hnn⟩ : ∃ n, b.g.length = n := ⟨_, rfl⟩
          have HN := Lib.hid hnn
          have hgl : b.g.length ≤ b.last := by unfold Bd.last; omega
          obtain ⟨la, hla⟩ : ∃ la, b.last = la := ⟨_, rfl⟩
          have HLA := Lib.hid hla
          rw [hla] at HMAX hlast hgl
          rw [hnn] at k2 hgl
          have HNW : Hid (w = w) := Lib.hid rfl
          clear hn hr2 hyo hxy hy0 hbox hrun h hnn hla
          rcases hq with hq | ⟨hq, hq2⟩
          all_goals
            go_enter Try.func96, Try.ntmps96
            go_upto_region 8 with (fail)
            clear hq em emw ew
            try clear hq2
            go_wp2
            go_loopg [10] n (fun j iv wx => ∃ q : Nat, q ≤ n ∧ j = n - q ∧ iv = .int .i64 q ∧ wx = w ∧ ∀ i, i < q → b.g[i]? ≠ some (X, Y))
            case atStart => exact ⟨0, Nat.zero_le _, rfl, rfl, rfl, fun i hi => absurd hi (by omega)⟩
            case round =>
              obtain ⟨q, hq, hgk, rfl, hw, hno⟩ := hrel
              subst hgk
              rw [hw]
              clear hw
              have HNO := Lib.hid hno
              by_cases hlt : q < n
              · obtain ⟨p, hp⟩ : ∃ p, b.g[q]? = some p := ⟨_, List.getElem?_eq_getElem (by rw [HN.out]; exact hlt)⟩
                obtain ⟨tb, off, e, htb, hcell⟩ := HRUN.out q (b.out q, p) (tris_at.2 ⟨p, hp, rfl⟩)
                subst e
                have c0 := hcell 0 _ rfl
                have c1 := hcell 1 _ rfl
                have c2 := hcell 2 _ rfl
                simp only [Nat.add_zero, ← Nat.add_assoc] at c0 c1 c2
                have hqi : (q : Int) < (n : Int) := by omega
                have hqi0 : (0 : Int) ≤ (q : Int) := by omega
                obtain ⟨p1, p2⟩ := p
                simp only at c0 c1 c2
                have HP := Lib.hid hp
                clear hcell hp hno
                by_cases e1 : p1 = X
                · have q1 : (p1 == X) = true := by simpa using e1
                  by_cases e2 : p2 = Y
                  · have q2 : (p2 == Y) = true := by simpa using e2
                    have HF : Hid (b.gate X Y = ((b.out q, 0), b)) := Lib.hid (by
                      have h9 := HP.out
                      rw [e1, e2] at h9
                      have := findP_at (k := 0) HH.out.ok.nd h9
                      unfold Bd.gate
                      rw [this, Nat.zero_add])
                    obtain ⟨o, ho⟩ : ∃ o, b.out q = o := ⟨_, rfl⟩
                    rw [ho] at c0 HF
                    clear e1 e2 ho
                    go_wp2
                    go_ret2
                    rw [HF.out]
                    exact ⟨rfl, DidR.of_below HH.out (Below.refl _ _)⟩
                  · have q2 : (p2 == Y) = false := by simpa using e2
                    have HN2 : Hid (∀ i, i < q + 1 → b.g[i]? ≠ some (X, Y)) := Lib.hid (fun i hi e9 => by
                      by_cases e : i = q
                      · subst e; rw [HP.out] at e9; injection e9 with e9; injection e9 with _ e9; exact e2 e9
                      · exact HNO.out i (by omega) e9)
                    clear e1 e2
                    go_wp2
                    go_roundg (n - (q + 1))
                    case measure => omega
                    case rel => exact ⟨q + 1, by omega, rfl, by go_num, rfl, HN2.out⟩
                · have q1 : (p1 == X) = false := by simpa using e1
                  have HN2 : Hid (∀ i, i < q + 1 → b.g[i]? ≠ some (X, Y)) := Lib.hid (fun i hi e9 => by
                    by_cases e : i = q
                    · subst e; rw [HP.out] at e9; injection e9 with e9; injection e9 with e9 _; exact e1 e9
                    · exact HNO.out i (by omega) e9)
                  clear e1
                  go_wp2
                  go_roundg (n - (q + 1))
                  case measure => omega
                  case rel => exact ⟨q + 1, by omega, rfl, by go_num, rfl, HN2.out⟩
              · have hqe : q = n := by omega
                have HFN : Hid (findP (X, Y) b.g 0 = none) := Lib.hid (findP_no (fun hm => by
                  obtain ⟨i, hi⟩ := List.getElem?_of_mem hm
                  have h9 := (List.getElem?_eq_some_iff.1 hi).1
                  rw [HN.out] at h9
                  exact HNO.out i (by omega) hi))
                have hqi : ¬ (q : Int) < (n : Int) := by omega
                clear hno hlt hq hqe
                by_cases hfull : 16384 ≤ la
                · have HF : Hid (b.gate X Y = ((0, 2), b)) := Lib.hid (by unfold Bd.gate; rw [HFN.out]; simp only; rw [if_pos (.inl (by rw [HLA.out]; exact hfull))])
                  have hlai : (16384 : Int) ≤ (la : Int) := by omega
                  clear hfull
                  go_wp2_with (go_at_call 97; refine HMAX.out.mono ?_; rintro e w2 ⟨rfl, hb2⟩; have HB2 := Lib.hid hb2; clear hb2)
                  go_ret2
                  rw [HF.out]
                  exact ⟨rfl, DidR.of_below HH.out HB2.out⟩
                · have HF : Hid (b.gate X Y = ((b.out n, 0), { b with g := b.g ++ [(X, Y)] })) := Lib.hid (by unfold Bd.gate; rw [HFN.out]; simp only; rw [if_neg (by rw [HLA.out, HN.out]; omega), HN.out])
                  have hlai : ¬ (16384 : Int) ≤ (la : Int) := by omega
                  have hni : ¬ (16384 : Int) ≤ (n : Int) := by omega
                  have w1' : IntKind.i64.wrap ((la : Int) + 1) = (la : Int) + 1 := by simp [IntKind.wrap, IntKind.bits, IntKind.signed]; omega
                  have w2' : IntKind.i64.wrap (2 * ((la : Int) + 1)) = 2 * ((la : Int) + 1) := by simp [IntKind.wrap, IntKind.bits, IntKind.signed]; omega
                  obtain ⟨o, ho⟩ : ∃ o : Int, 2 * ((la : Int) + 1) = o := ⟨_, rfl⟩
                  have HO : Hid (b.out n = o) := Lib.hid (by rw [← ho, ← HLA.out, ← HN.out]; unfold Bd.out Bd.last; push_cast; omega)
                  rw [ho] at w2'
                  have HMAX2 := Lib.hid (fun (wz : World) (hb : Below w.heap.size w wz) => (show Calls Try.prog 97 #[.pointer (some ⟨cx, 0, none⟩)] wz fun e w' => e = .returned (.int .i64 la) ∧ Below wz.heap.size wz w' from by have := rMax_any wz cx b F (HH.out.below hb); rwa [HLA.out] at this))
                  have HK2 : Hid (∀ wz, Below w.heap.size w wz → ∃ gv, HRm wz cx gv b ∧ F = FootR cx gv) := Lib.hid (fun wz hb => HH.out.below hb)
                  clear hfull
                  go_upto_region 15 with (go_at_call 97; refine HMAX.out.mono ?_; rintro e w2 ⟨rfl, hb2⟩; have HB2 := Lib.hid hb2; have k2b := (HB2.out.cell (p := ⟨cx, 2, none⟩) (show cx < w.heap.size from HH.out.lt (by obtain ⟨gv, _, hF⟩ := HH.out; rw [hF]; exact .inl rfl))).trans k2; clear hb2)
                  go_upto_region 16 with (go_at_call 97; refine (HMAX2.out _ HB2.out).mono ?_; rintro e w3 ⟨rfl, hb3⟩; have HB3 := Lib.hid (bt HB2.out (Nat.le_refl _) hb3); clear hb3 k2b)
                  have hkk : HRm w cx (.slice A n c) b ∧ F = FootR cx (.slice A n c) := by
                    obtain ⟨gv, hm, hF⟩ := HH.out
                    have h9 := hm.box.cell 2
                    simp only [List.getElem?_toArray, List.getElem?_cons_zero, List.getElem?_cons_succ] at h9
                    rw [k2] at h9
                    injection h9 with h9
                    rw [h9]
                    exact ⟨hm, hF⟩
                  have HM := Lib.hid hkk.1
                  have HF0 := Lib.hid hkk.2
                  have HM3 : Hid (HRm w3 cx (.slice A n c) b) := Lib.hid (hkk.1.below HB3.out)
                  obtain ⟨i0, hi0, hz0, hz1, hz2⟩ := info_of2 infoA2
                  have hbld : ∀ wz : World, (Instr.build 80 #[(0, .int .i64 o), (1, .int .i64 X), (2, .int .i64 Y)]).run Try.prog wz = .ok (.agg #[.int .i64 o, .int .i64 X, .int .i64 Y]) wz := fun wz => run_build wz _ _ _ (by kernel_rfl)
                  have HBA : Hid (Below w3.heap.size w3 (w3.alloc (.cells #[.int .i64 o, .int .i64 X, .int .i64 Y] 80))) := Lib.hid ((Below.refl _ _).alloc (Nat.le_refl _) _)
                  have HW5 : Hid (∀ w5, (w3.alloc (.cells #[.int .i64 o, .int .i64 X, .int .i64 Y] 80)).grownBy w5 (Value.slice A n c).ownBlock → w5.cell? ⟨cx, 2, none⟩ = some (.slice A n c) ∧ w5.frozen? ⟨cx, 2, none⟩ = false ∧ cx < w5.heap.size ∧ Blk w5 cx 145 #[.int .i64 b.i, .int .i64 b.l, .slice A n c]) := Lib.hid (fun w5 hg => by
                    have hrow := own_below HM3.out.row HBA.out
                    have q1 := (HM3.out.box.below HBA.out HM3.out.box.lt).grown hg (fun e => own_blk_ne hrow (HM3.out.box.below HBA.out HM3.out.box.lt) (by decide) e.symm)
                    exact ⟨q1.cell 2, q1.frozen _, q1.lt, q1⟩)
                  have HROW : Hid ((w3.alloc (.cells #[.int .i64 o, .int .i64 X, .int .i64 Y] 80)).ownsRow 0 80 3 (.slice A n c) n (b.tris.flatMap encT)) := Lib.hid (by have := own_below HM3.out.row HBA.out; rwa [HN.out] at this)
                  have k2c := HM3.out.box.cell 2
                  simp only [List.getElem?_toArray, List.getElem?_cons_zero, List.getElem?_cons_succ] at k2c
                  clear hkk k2
                  go_wp2_with (at_builtin; refine wpList_append_any _ rfl (.tmp 98) (.tmp 103) _ rfl 0 80 i0 _ 3 24 Try.underlying25 hi0 hz0 hz1 hz2 rfl (by omega) (.slice A n c) n (b.tris.flatMap encT) rfl HROW.out (w3.heap.size + 1) (some ⟨w3.heap.size, 0, none⟩) 1 1 [.int .i64 o, .int .i64 X, .int .i64 Y] rfl (reads_triple _ _ _ _ _) (by simp [Value.oneCell']) (by simp only [maxLen]; omega) (by omega) (Nat.zero_le _) ?_; intro v5 w5 hown5 hg5 hat5; obtain ⟨B5, k5, hv5⟩ := own_slice_k hown5; subst hv5; obtain ⟨s1, s2, s3, s4⟩ := HW5.out _ hg5; have HO5 := Lib.hid hown5; have HGR := Lib.hid hg5; have HAT := Lib.hid hat5; have HQB := Lib.hid s4; clear hown5 hg5 hat5 s4)
                  go_ret2
                  rw [HF.out]
                  have hbut : But F w (w5.setCell ⟨cx, 2, none⟩ (.slice B5 (n + 1) k5)) := by
                    rw [HF0.out]
                    exact But.set_ (((But.of_below HB3.out).alloc (.cells #[.int .i64 o, .int .i64 X, .int .i64 Y] 80)).grown HGR.out (fun k hk => .inl (.inr hk))) (.inl (.inl rfl)) _
                  refine ⟨(by rw [HO.out]; rfl), FootR cx (.slice B5 (n + 1) k5), ⟨.slice B5 (n + 1) k5, ⟨?_, ?_, ?_⟩, rfl⟩, hbut, ?_⟩
                  · exact Blk.set_ HQB.out 2 (.slice B5 (n + 1) k5)
                  · rw [tris_snoc]
                    have e1 : (b.g ++ [(X, Y)]).length = n + 1 := by rw [List.length_append, HN.out]; rfl
                    rw [e1, List.flatMap_append, HN.out, HO.out]
                    exact own_of_block HO5.out (fun g hg => Below.heap_setCell _ _ _ _ (fun e => own_blk_ne HO5.out HQB.out (by decide) (by rw [hg, e])))
                  · have := (gate_spec HM.out.ok h12.1 h12.2.1 h12.2.2 HX.out).ok
                    rwa [HF.out] at this
                  · intro k hk
                    rw [HF0.out]
                    rcases hk with q | q
                    · exact .inl (.inl q)
                    · rcases HAT.out with e | e
                      · exact .inl (.inr (by rw [← e]; exact q))
                      · rw [e] at q
                        injection q with q
                        refine .inr ?_
                        subst q
                        exact Nat.le_trans HB3.out.size (by simp)
end Go.Proofs.Ytilbgopdciiadaa

namespace Go.Proofs.Ytilbgopdciiadaa
open Go.RowKit Go.Maps

end Go.Proofs.Ytilbgopdciiadaa
