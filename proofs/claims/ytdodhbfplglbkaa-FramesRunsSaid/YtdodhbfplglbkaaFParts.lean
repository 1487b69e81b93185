/- The walk of FramesParts: for whatever circuit, literal and step the statement's Go function answers true, and nothing that was there has turned. -/
import Derived.Test.YtdodhbfplglbkaaFrmW
import Derived.Test.YtdodhbfplglbkaaLendC
import Derived.Test.YtdodhbfplglbkaaKeptC
namespace Go.Proofs.Ytdodhbfplglbkaa
open Go.RowKit

set_option maxHeartbeats 1000000 in
set_option maxRecDepth 100000 in
theorem rlitF_any (w : World) (V : CV) (m t l : Int) (h0 : 0 ≤ m) (h1 : m ≤ 16384) (h2 : 0 ≤ t) (h3 : t ≤ 600) (h4 : 0 ≤ l) (h5 : l ≤ 1000000) :
    Calls Try.prog 61 #[V.val m, .int .i64 l, .int .i64 t] w fun e w' => e = .returned (.int .i64 (litT m t l)) ∧ Below w.heap.size w w' := by
  obtain ⟨g0, g1⟩ := mul_in h2 h3 h0 h1
  have hq := tdiv_nn (b := 2) h4
  have hm : l.tmod 2 = l % 2 := Int.tmod_eq_emod_of_nonneg h4
  have hw : IntKind.i64.wrap (l / 2) = l / 2 := i64_in (by omega)
  have hw1 : IntKind.i64.wrap (t * m) = t * m := i64_in (by omega)
  have hw2 : IntKind.i64.wrap (2 + t * m) = 2 + t * m := i64_in (by omega)
  have hw3 : IntKind.i64.wrap (2 + t * m + l / 2) = 2 + t * m + l / 2 := i64_in (by omega)
  have hw4 : IntKind.i64.wrap (2 + t * m + l / 2 - 1) = 2 + t * m + l / 2 - 1 := i64_in (by omega)
  have hw5 : IntKind.i64.wrap (-(2 + t * m + l / 2 - 1)) = -(2 + t * m + l / 2 - 1) := i64_in (by omega)
  have hw6 : IntKind.i64.wrap (-1) = -1 := by decide
  rw [litT_def h4]
  have HB : Hid (Below w.heap.size w (w.alloc (.cells (V.cells m) 29))) := Lib.hid ((Below.refl _ _).alloc (Nat.le_refl _) _)
  have HX := Lib.hid (Blk.new w 29 (V.cells m))
  obtain ⟨W0, hW0⟩ : ∃ W0, w.alloc (.cells (V.cells m) 29) = W0 := ⟨_, rfl⟩
  rw [hW0] at HB HX
  have HW0 := Lib.hid hW0
  have c0 := HX.out.cell 0
  simp only [CV.cells, List.getElem?_toArray, List.getElem?_cons_zero] at c0
  clear hW0
  by_cases k1 : 0 < l / 2
  · have e : movF (t * m) (l / 2 + 1) = (2 + t * m + l / 2 - 1) := by unfold movF; rw [if_pos (by omega)]; omega
    rw [e]
    clear e
    by_cases h6 : l % 2 = 1
    · rw [if_pos h6]
      go_enter Try.func61, Try.ntmps61
      go_upto_region 1 with (fail)
      rw [HW0.out]
      go_wp2
      go_ret
      exact ⟨rfl, HB.out⟩
    · have h7 : l % 2 = 0 := by omega
      rw [if_neg h6]
      go_enter Try.func61, Try.ntmps61
      go_upto_region 1 with (fail)
      rw [HW0.out]
      go_wp2
      go_ret
      exact ⟨rfl, HB.out⟩
  · have e : movF (t * m) (l / 2 + 1) = 1 := by unfold movF; rw [if_neg (by omega), if_neg (by omega)]; omega
    rw [e]
    clear e
    have k2 : l / 2 = 0 := by omega
    by_cases h6 : l % 2 = 1
    · rw [if_pos h6]
      go_enter Try.func61, Try.ntmps61
      go_upto_region 1 with (fail)
      rw [HW0.out]
      go_wp2
      go_ret
      exact ⟨rfl, HB.out⟩
    · have h7 : l % 2 = 0 := by omega
      rw [if_neg h6]
      go_enter Try.func61, Try.ntmps61
      go_upto_region 1 with (fail)
      rw [HW0.out]
      go_wp2
      go_ret
      exact ⟨rfl, HB.out⟩
set_option maxHeartbeats 1000000 in
set_option maxRecDepth 100000 in
theorem rfits_any (w : World) (V : CV) (m n : Int) (h0 : 0 ≤ m) (h1 : m ≤ 16384) (h2 : 0 ≤ n) (h3 : n ≤ 600) :
    Calls Try.prog 60 #[V.val m, .int .i64 n] w fun e w' => e = .returned (.bool (decide (1 + n * m ≤ 262144))) ∧ Below w.heap.size w w' := by
  obtain ⟨g0, g1⟩ := mul_in h2 h3 h0 h1
  have hw : IntKind.i64.wrap (n * m) = n * m := i64_in (by omega)
  have hw1 : IntKind.i64.wrap (1 + n * m) = 1 + n * m := i64_in (by omega)
  obtain ⟨W0, hW0⟩ : ∃ W0, w.alloc (.cells (V.cells m) 29) = W0 := ⟨_, rfl⟩
  have HB : Hid (Below w.heap.size w W0) := Lib.hid (by rw [← hW0]; exact (Below.refl _ _).alloc (Nat.le_refl _) _)
  have HX : Hid (Blk W0 w.heap.size 29 (V.cells m)) := Lib.hid (by rw [← hW0]; exact Blk.new w _ _)
  have HW0 := Lib.hid hW0
  have c0 := HX.out.cell 0
  simp only [CV.cells, List.getElem?_toArray, List.getElem?_cons_zero] at c0
  clear hW0
  go_enter Try.func60, Try.ntmps60
  go_upto_region 1 with (fail)
  rw [HW0.out]
  go_wp2
  go_ret
  exact ⟨rfl, HB.out⟩

/-- A gate's clauses at a step, as the document has them. -/
def gtT (m t : Int) (z : Tri) : List (List Int) := [[-(litT m t z.1), litT m t z.2.1], [-(litT m t z.1), litT m t z.2.2], [litT m t z.1, -(litT m t z.2.1), -(litT m t z.2.2)]]
theorem litC_ne {l : Int} (h : 0 ≤ l) : litC l ≠ 0 := by unfold litC; split <;> omega
theorem gtT_eq {m t : Int} {z : Tri} (h : 0 ≤ z.1 ∧ 0 ≤ z.2.1 ∧ 0 ≤ z.2.2) : (gateC z).map (·.map (movF (t * m))) = gtT m t z := by
  unfold gateC gtT litT
  simp only [List.map_cons, List.map_nil, movF_neg _ _ (litC_ne h.1), movF_neg _ _ (litC_ne h.2.1), movF_neg _ _ (litC_ne h.2.2)]
theorem flatMap_congrF {α β : Type} {f g : α → List β} : ∀ {xs : List α}, (∀ x ∈ xs, f x = g x) → xs.flatMap f = xs.flatMap g
  | [], _ => rfl
  | a :: r, h => by rw [List.flatMap_cons, List.flatMap_cons, h a (by simp), flatMap_congrF (fun x hx => h x (by simp [hx]))]
theorem gatT_eq {C : Circ} {t : Int} (h : ∀ z ∈ C.ands, 0 ≤ z.1 ∧ 0 ≤ z.2.1 ∧ 0 ≤ z.2.2) : gatT C t = C.ands.flatMap (gtT C.max t) := by
  unfold gatT
  rw [List.map_flatMap]
  exact flatMap_congrF (fun z hz => gtT_eq (h z hz))
theorem gtT_len (m t : Int) (zs : List Tri) : (zs.flatMap (gtT m t)).length = 3 * zs.length := by
  induction zs with
  | nil => rfl
  | cons a r ih => rw [List.flatMap_cons, List.length_append, ih, List.length_cons]; show 3 + _ = _; omega
theorem drow_none (w : World) (B : Nat) : DRow w B (.slice none 0 0) [] [] := (crow_none w B).toD
theorem cell_ltR {w : World} {b i : Nat} {x : Value} (h : w.cell? ⟨b, i, none⟩ = some x) : b < w.heap.size := by
  by_cases e : b < w.heap.size
  · exact e
  · have : w.heap[b]? = none := Array.getElem?_eq_none (by omega)
    simp [World.cell?, this] at h
set_option maxHeartbeats 1000000 in
set_option maxRecDepth 100000 in
theorem rGateB_any (w : World) (o l r : Int) (h1 : -11000000 ≤ o ∧ o ≤ 11000000) (h2 : -11000000 ≤ l ∧ l ≤ 11000000) (h3 : -11000000 ≤ r ∧ r ≤ 11000000) :
    Calls Try.prog 101 #[.int .i64 o, .int .i64 l, .int .i64 r] w fun e w' => Below w.heap.size w w' ∧ ∃ g a b c, e = .returned (.slice (some ⟨g, 0, none⟩) 3 3) ∧ Blk w' g 81 #[a, b, c] ∧ w'.ownsRow w.heap.size 3 1 a 2 ([-o, l].flatMap encI) ∧ w'.ownsRow w.heap.size 3 1 b 2 ([-o, r].flatMap encI) ∧ w'.ownsRow w.heap.size 3 1 c 3 ([o, -l, -r].flatMap encI) := by
  have w1 : IntKind.i64.wrap (-o) = -o := i64_in (by omega)
  have w2 : IntKind.i64.wrap (-l) = -l := i64_in (by omega)
  have w3 : IntKind.i64.wrap (-r) = -r := i64_in (by omega)
  go_enter Try.func101, Try.ntmps101
  go_wp2
  go_ret
  have b1 := Blk.new w 3 #[.int .i64 (-o), .int .i64 l]
  have b2 := Blk.new (w.alloc (.cells #[.int .i64 (-o), .int .i64 l] 3)) 3 #[.int .i64 (-o), .int .i64 r]
  have b3 := Blk.new ((w.alloc (.cells #[.int .i64 (-o), .int .i64 l] 3)).alloc (.cells #[.int .i64 (-o), .int .i64 r] 3)) 3 #[.int .i64 o, .int .i64 (-l), .int .i64 (-r)]
  have b4 := Blk.new (((w.alloc (.cells #[.int .i64 (-o), .int .i64 l] 3)).alloc (.cells #[.int .i64 (-o), .int .i64 r] 3)).alloc (.cells #[.int .i64 o, .int .i64 (-l), .int .i64 (-r)] 3)) 81 #[.slice (some ⟨w.heap.size, 0, none⟩) 2 2, .slice (some ⟨w.heap.size + 1, 0, none⟩) 2 2, .slice (some ⟨w.heap.size + 1 + 1, 0, none⟩) 3 3]
  simp only [World.size_alloc] at b2 b3 b4
  exact ⟨((((Below.refl _ _).alloc (Nat.le_refl _) _).alloc (by simp) _).alloc (by simp; omega) _).alloc (by simp; omega) _, _, _, _, _, rfl, b4,
    blk_ownR (((b1.alloc _).alloc _).alloc _) (Nat.le_refl _) rfl (by simp [maxLen]), blk_ownR ((b2.alloc _).alloc _) (by omega) rfl (by simp [maxLen]), blk_ownR (b3.alloc _) (by omega) rfl (by simp [maxLen])⟩
theorem oneR {w : World} {B : Nat} {a : Value} {x : List Int} (h1 : w.ownsRow B 3 1 a x.length (x.flatMap encI)) :
    ∀ (i : Nat) (u : Value) (zs : List Int), [a][i]? = some u → [x][i]? = some zs → w.ownsRow B 3 1 u zs.length (zs.flatMap encI) := fun i u zs hu hz => by
  match i, hu, hz with
  | 0, hu, hz => injection hu with hu; injection hz with hz; subst hu hz; exact h1
  | i + 1, hu, _ => simp at hu

set_option maxHeartbeats 20000000 in
set_option maxRecDepth 100000 in
theorem rfStep0_any (w : World) (V : CV) (C : Circ) (t : Int) (h : C.In w V) (hz : (checkR C).2 = 0) (h2' : 0 ≤ t) (h3' : t ≤ 600) :
    Calls Try.prog 67 #[V.val C.max, .int .i64 t] w fun e w' => Below w.heap.size w w' ∧ ∃ v us, e = .returned v ∧ DRow w' w.heap.size v us (gatT C t ++ conT C t) := by
  have hr := right_of hz
  obtain ⟨m, hm⟩ : ∃ m : Int, C.max = m := ⟨_, rfl⟩
  have hm0 : 0 ≤ m := by rw [← hm]; exact hr.m0
  have hm1 : m ≤ 16384 := by rw [← hm]; exact hr.m1
  have HLT := Lib.hid (fun (wx : World) (t l : Int) (h2 : 0 ≤ t) (h3 : t ≤ 600) (h4 : 0 ≤ l) (h5 : l ≤ 1000000) => rlitF_any wx V m t l hm0 hm1 h2 h3 h4 h5)
  have HTI : Hid (∀ t l : Int, 0 ≤ t → t ≤ 600 → 0 ≤ l → l ≤ 1000000 → -11000000 ≤ litT m t l ∧ litT m t l ≤ 11000000) := Lib.hid (fun t l h1 h2 h3 h4 => by
    obtain ⟨g0, g1⟩ := mul_in h1 h2 hm0 hm1
    exact movF_in g0 g1 (by unfold litC; split <;> omega) (by unfold litC; split <;> omega))
  obtain ⟨W0, hW0⟩ : ∃ W0, w.alloc (.cells (V.cells m) 29) = W0 := ⟨_, rfl⟩
  have HB : Hid (Below w.heap.size w W0) := Lib.hid (by rw [← hW0]; exact (Below.refl _ _).alloc (Nat.le_refl _) _)
  have HX : Hid (Blk W0 w.heap.size 29 (V.cells m)) := Lib.hid (by rw [← hW0]; exact Blk.new w _ _)
  have HW0 := Lib.hid hW0
  obtain ⟨i0, hi0, hz0, hz1, hz2⟩ := info_of2 infoCl
  have HI0 := Lib.hid (And.intro hi0 (And.intro hz0 (And.intro hz1 hz2)))
  have HGI : Hid (∀ z ∈ C.ands, (0 ≤ z.1 ∧ z.1 ≤ 1000000) ∧ (0 ≤ z.2.1 ∧ z.2.1 ≤ 1000000) ∧ 0 ≤ z.2.2 ∧ z.2.2 ≤ 1000000) := Lib.hid (fun z hz => by have := hr.a z hz; unfold LitOk at this; omega)
  have HLI : Hid (∀ l ∈ C.constraints, 0 ≤ l ∧ l ≤ 1000000) := Lib.hid (fun l hl => by have := hr.c l hl; unfold LitOk at this; omega)
  have hg : gatT C t = C.ands.flatMap (gtT m t) := by rw [← hm]; exact gatT_eq (fun z hz => ⟨(HGI.out z hz).1.1, (HGI.out z hz).2.1.1, (HGI.out z hz).2.2.1⟩)
  have hc : conT C t = C.constraints.map fun l => [litT m t l] := by unfold conT; rw [hm]
  rw [hg, hc, hm]
  have hna := hr.na
  have hnc := hr.nc
  obtain ⟨GA, gc, eg, _, _, hrg⟩ := h.a
  obtain ⟨CA, cc, ec, _, _, hrc⟩ := h.c
  obtain ⟨nA, hnA⟩ : ∃ n, C.ands.length = n := ⟨_, rfl⟩
  obtain ⟨nC, hnC⟩ : ∃ n, C.constraints.length = n := ⟨_, rfl⟩
  rw [hnA] at eg hna
  rw [hnC] at ec hnc
  have HNA := Lib.hid hnA
  have HNC := Lib.hid hnC
  have HRG := Lib.hid hrg
  have HRC := Lib.hid hrc
  obtain ⟨Vi, Vl, Vo, Vb, Vc, Vj, Vf, Va, Vs, Vt⟩ := V
  simp only at eg ec
  subst eg ec
  clear hW0 hr h hz hrg hrc hnA hnC hm hg hc hi0 hz0 hz1 hz2
  go_enter Try.func67, Try.ntmps67
  go_upto_region 1 with (fail)
  rw [HW0.out]
  go_wp2
  go_loopg [5, 6] nA (fun k vg jv wx => ∃ (q : Nat) (us : List Value), q ≤ nA ∧ k = nA - q ∧ jv = .int .i64 q ∧ DRow wx W0.heap.size vg us ((C.ands.take q).flatMap (gtT m t)) ∧ Below W0.heap.size W0 wx)
  case atStart => exact ⟨0, [], Nat.zero_le _, rfl, rfl, drow_none _ _, Below.refl _ _⟩
  case round =>
    obtain ⟨q, us, hq, hgk, rfl, hdr, hbl⟩ := hrel
    subst hgk
    obtain ⟨UA, uc, hue⟩ := own_slice_k hdr.own
    subst hue
    have HDR := Lib.hid hdr
    have HBL := Lib.hid hbl
    obtain ⟨k, hk⟩ : ∃ k, us.length = k := ⟨_, rfl⟩
    have HK := Lib.hid hk
    have hk8 : k ≤ 60000 := by
      have h9 := hdr.ul
      rw [hk, gtT_len, List.length_take] at h9
      omega
    have HXW : Hid (Blk wr w.heap.size 29 #[.int .i64 m, Vi, Vl, Vo, Vb, .slice CA nC cc, Vj, Vf, .slice GA nA gc, Vs, Vt]) := Lib.hid (HX.out.below hbl HX.out.lt)
    obtain ⟨c0, c1, c2, c3, c4, c5, c6, c7, c8, c9, c10⟩ := rbox_of HXW.out
    rw [hk]
    clear hdr hbl hk
    by_cases hlt : q < nA
    · obtain ⟨z, hl⟩ : ∃ z, C.ands[q]? = some z := ⟨_, List.getElem?_eq_getElem (by rw [HNA.out]; exact hlt)⟩
      obtain ⟨b, off, e, hb, hcell⟩ := HRG.out q z hl
      subst e
      obtain ⟨z0, z1, z2⟩ := z
      have hbs := HB.out.trans (HBL.out.mono HB.out.size)
      have h0 := (hbs.cell (p := ⟨b, off + (q * 3 + 0), none⟩) hb).trans (hcell 0 _ rfl)
      have h1 := (hbs.cell (p := ⟨b, off + (q * 3 + 1), none⟩) hb).trans (hcell 1 _ rfl)
      have h2 := (hbs.cell (p := ⟨b, off + (q * 3 + 2), none⟩) hb).trans (hcell 2 _ rfl)
      simp only [Nat.add_zero, ← Nat.add_assoc] at h0 h1 h2
      obtain ⟨⟨l0, l1⟩, ⟨l2, l3⟩, l4, l5⟩ := HGI.out _ (List.mem_of_getElem? hl)
      simp only at l0 l1 l2 l3 l4 l5
      have HTK : Hid ((C.ands.take (q + 1)).flatMap (gtT m t) = (C.ands.take q).flatMap (gtT m t) ++ gtT m t (z0, z1, z2)) := Lib.hid (by rw [List.take_add_one, hl, List.flatMap_append]; simp)
      have HF0 := Lib.hid (fun wx => HLT.out wx t z0 h2' h3' l0 l1)
      have HF1 := Lib.hid (fun wx => HLT.out wx t z1 h2' h3' l2 l3)
      have HF2 := Lib.hid (fun wx => HLT.out wx t z2 h2' h3' l4 l5)
      have t0 := HTI.out t z0 h2' h3' l0 l1
      have t1 := HTI.out t z1 h2' h3' l2 l3
      have t2 := HTI.out t z2 h2' h3' l4 l5
      have HGE : Hid (gtT m t (z0, z1, z2) = [[-(litT m t z0), litT m t z1], [-(litT m t z0), litT m t z2], [litT m t z0, -(litT m t z1), -(litT m t z2)]]) := Lib.hid rfl
      rw [HGE.out] at HTK
      obtain ⟨x0, hx0⟩ : ∃ x, litT m t z0 = x := ⟨_, rfl⟩
      obtain ⟨x1, hx1⟩ : ∃ x, litT m t z1 = x := ⟨_, rfl⟩
      obtain ⟨x2, hx2⟩ : ∃ x, litT m t z2 = x := ⟨_, rfl⟩
      rw [hx0, hx1, hx2] at HTK
      rw [hx0] at HF0 t0
      rw [hx1] at HF1 t1
      rw [hx2] at HF2 t2
      have HGT := Lib.hid (fun wx => rGateB_any wx x0 x1 x2 t0 t1 t2)
      have hk0 : (0 : Int) ≤ (q : Int) := by omega
      have hk1 : (q : Int) < (nA : Int) := by omega
      have HXB : Hid (Blk (wr.alloc (.cells #[.int .i64 z0, .int .i64 z1, .int .i64 z2] 68)) w.heap.size 29 #[.int .i64 m, Vi, Vl, Vo, Vb, .slice CA nC cc, Vj, Vf, .slice (some ⟨b, off, none⟩) nA gc, Vs, Vt]) := Lib.hid (HXW.out.alloc _)
      have HYB : Hid (Blk (wr.alloc (.cells #[.int .i64 z0, .int .i64 z1, .int .i64 z2] 68)) wr.heap.size 68 #[.int .i64 z0, .int .i64 z1, .int .i64 z2]) := Lib.hid (Blk.new wr _ _)
      have HBA : Hid (Below wr.heap.size wr (wr.alloc (.cells #[.int .i64 z0, .int .i64 z1, .int .i64 z2] 68))) := Lib.hid ((Below.refl _ _).alloc (Nat.le_refl _) _)
      clear hcell hl hb hbs t0 t1 t2 hx0 hx1 hx2 HGE
      go_upto_region 6 with (fail)
      obtain ⟨wx, hwx0⟩ : ∃ x, wr.alloc (.cells #[.int .i64 z0, .int .i64 z1, .int .i64 z2] 68) = x := ⟨_, rfl⟩
      obtain ⟨xb, hxb⟩ : ∃ x, wr.heap.size = x := ⟨_, rfl⟩
      rw [hwx0] at HXB HYB HBA
      rw [hxb] at HYB
      rw [hwx0, hxb]
      have HSB : Hid (∀ w3, Below wx.drew.heap.size wx.drew w3 → Blk w3 w.heap.size 29 #[.int .i64 m, Vi, Vl, Vo, Vb, .slice CA nC cc, Vj, Vf, .slice (some ⟨b, off, none⟩) nA gc, Vs, Vt] ∧ Blk w3 xb 68 #[.int .i64 z0, .int .i64 z1, .int .i64 z2]) := Lib.hid (fun w3 hb => ⟨HXB.out.drew.below hb HXB.out.drew.lt, HYB.out.drew.below hb HYB.out.drew.lt⟩)
      have HBD : Hid (Below wr.heap.size wr wx.drew) := Lib.hid HBA.out.drew
      clear hwx0 hxb h0 h1 h2 c0 c1 c2 c3 c4 c5 c6 c7 c8 c9 c10
      refine wp_region_T (by kernel_rfl) (fun w' => Blk w' w.heap.size 29 #[.int .i64 m, Vi, Vl, Vo, Vb, .slice CA nC cc, Vj, Vf, .slice (some ⟨b, off, none⟩) nA gc, Vs, Vt] ∧ Blk w' xb 68 #[.int .i64 z0, .int .i64 z1, .int .i64 z2]) 19 ?_
      have hHeld := HSB.out _ (Below.refl _ _)
      refine wpAnyT_take (i := 0) (v := ?v0q1) rfl (by kernel_rfl) (fun _ _ _ h => h) (by rfl) hHeld ?h0q1 ?_
      case h0q1 => (intro w' hSw; (try dsimp only at hSw); go_simp; try with_reducible rfl)
      (try simp only [Act.put, List.setIfInBounds_toArray, List.set_cons_zero, List.set_cons_succ, List.getElem_toArray, List.getElem_cons_zero])
      refine wpAnyT_take (i := 1) (v := ?v1q2) rfl (by kernel_rfl) (fun _ _ _ h => h) (by rfl) hHeld ?h1q2 ?_
      case h1q2 => (intro w' hSw; (try dsimp only at hSw); obtain ⟨c0, c1, c2, c3, c4, c5, c6, c7, c8, c9, c10⟩ := rbox_of hSw.1; go_simp; try with_reducible rfl)
      (try simp only [Act.put, List.setIfInBounds_toArray, List.set_cons_zero, List.set_cons_succ, List.getElem_toArray, List.getElem_cons_zero, List.getElem_cons_succ])
      refine wpAnyT_take (i := 2) (v := ?v2q3) rfl (by kernel_rfl) (fun _ _ _ h => h) (by rfl) hHeld ?h2q3 ?_
      case h2q3 => (intro w' hSw; (try dsimp only at hSw); have e0 := hSw.2.cell 0; simp only [List.getElem?_toArray, List.getElem?_cons_zero] at e0; go_simp; try with_reducible rfl)
      (try simp only [Act.put, List.setIfInBounds_toArray, List.set_cons_zero, List.set_cons_succ, List.getElem_toArray, List.getElem_cons_zero, List.getElem_cons_succ])
      refine wpAnyT_take (i := 3) (v := ?v3q4) rfl (by kernel_rfl) (fun _ _ _ h => h) (by rfl) hHeld ?h3q4 ?_
      case h3q4 => (intro w' hSw; (try dsimp only at hSw); have e0 := hSw.2.cell 0; simp only [List.getElem?_toArray, List.getElem?_cons_zero] at e0; go_simp; try with_reducible rfl)
      (try simp only [Act.put, List.setIfInBounds_toArray, List.set_cons_zero, List.set_cons_succ, List.getElem_toArray, List.getElem_cons_zero, List.getElem_cons_succ])
      refine wpAnyT_take (i := 4) (v := ?v4q5) rfl (by kernel_rfl) (fun _ _ _ h => h) (by rfl) hHeld ?h4q5 ?_
      case h4q5 => (intro w' hSw; (try dsimp only at hSw); go_simp; try with_reducible rfl)
      (try simp only [Act.put, List.setIfInBounds_toArray, List.set_cons_zero, List.set_cons_succ, List.getElem_toArray, List.getElem_cons_zero, List.getElem_cons_succ])
      refine wpAnyT_take (i := 6) (v := ?v6q6) rfl (by kernel_rfl) (fun _ _ _ h => h) (by rfl) hHeld ?h6q6 ?_
      case h6q6 => (intro w' hSw; (try dsimp only at hSw); obtain ⟨c0, c1, c2, c3, c4, c5, c6, c7, c8, c9, c10⟩ := rbox_of hSw.1; go_simp; try with_reducible rfl)
      (try simp only [Act.put, List.setIfInBounds_toArray, List.set_cons_zero, List.set_cons_succ, List.getElem_toArray, List.getElem_cons_zero, List.getElem_cons_succ])
      refine wpAnyT_take (i := 7) (v := ?v7q7) rfl (by kernel_rfl) (fun _ _ _ h => h) (by rfl) hHeld ?h7q7 ?_
      case h7q7 => (intro w' hSw; (try dsimp only at hSw); have e0 := hSw.2.cell 1; simp only [List.getElem?_toArray, List.getElem?_cons_zero, List.getElem?_cons_succ] at e0; go_simp; try with_reducible rfl)
      (try simp only [Act.put, List.setIfInBounds_toArray, List.set_cons_zero, List.set_cons_succ, List.getElem_toArray, List.getElem_cons_zero, List.getElem_cons_succ])
      refine wpAnyT_take (i := 8) (v := ?v8q8) rfl (by kernel_rfl) (fun _ _ _ h => h) (by rfl) hHeld ?h8q8 ?_
      case h8q8 => (intro w' hSw; (try dsimp only at hSw); have e0 := hSw.2.cell 1; simp only [List.getElem?_toArray, List.getElem?_cons_zero, List.getElem?_cons_succ] at e0; go_simp; try with_reducible rfl)
      (try simp only [Act.put, List.setIfInBounds_toArray, List.set_cons_zero, List.set_cons_succ, List.getElem_toArray, List.getElem_cons_zero, List.getElem_cons_succ])
      refine wpAnyT_take (i := 9) (v := ?v9q9) rfl (by kernel_rfl) (fun _ _ _ h => h) (by rfl) hHeld ?h9q9 ?_
      case h9q9 => (intro w' hSw; (try dsimp only at hSw); go_simp; try with_reducible rfl)
      (try simp only [Act.put, List.setIfInBounds_toArray, List.set_cons_zero, List.set_cons_succ, List.getElem_toArray, List.getElem_cons_zero, List.getElem_cons_succ])
      refine wpAnyT_take (i := 11) (v := ?v11q10) rfl (by kernel_rfl) (fun _ _ _ h => h) (by rfl) hHeld ?h11q10 ?_
      case h11q10 => (intro w' hSw; (try dsimp only at hSw); obtain ⟨c0, c1, c2, c3, c4, c5, c6, c7, c8, c9, c10⟩ := rbox_of hSw.1; go_simp; try with_reducible rfl)
      (try simp only [Act.put, List.setIfInBounds_toArray, List.set_cons_zero, List.set_cons_succ, List.getElem_toArray, List.getElem_cons_zero, List.getElem_cons_succ])
      refine wpAnyT_take (i := 12) (v := ?v12q11) rfl (by kernel_rfl) (fun _ _ _ h => h) (by rfl) hHeld ?h12q11 ?_
      case h12q11 => (intro w' hSw; (try dsimp only at hSw); have e0 := hSw.2.cell 2; simp only [List.getElem?_toArray, List.getElem?_cons_zero, List.getElem?_cons_succ] at e0; go_simp; try with_reducible rfl)
      (try simp only [Act.put, List.setIfInBounds_toArray, List.set_cons_zero, List.set_cons_succ, List.getElem_toArray, List.getElem_cons_zero, List.getElem_cons_succ])
      refine wpAnyT_take (i := 13) (v := ?v13q12) rfl (by kernel_rfl) (fun _ _ _ h => h) (by rfl) hHeld ?h13q12 ?_
      case h13q12 => (intro w' hSw; (try dsimp only at hSw); have e0 := hSw.2.cell 2; simp only [List.getElem?_toArray, List.getElem?_cons_zero, List.getElem?_cons_succ] at e0; go_simp; try with_reducible rfl)
      (try simp only [Act.put, List.setIfInBounds_toArray, List.set_cons_zero, List.set_cons_succ, List.getElem_toArray, List.getElem_cons_zero, List.getElem_cons_succ])
      refine wpAnyT_take (i := 14) (v := ?v14q13) rfl (by kernel_rfl) (fun _ _ _ h => h) (by rfl) hHeld ?h14q13 ?_
      case h14q13 => (intro w' hSw; (try dsimp only at hSw); go_simp; try with_reducible rfl)
      (try simp only [Act.put, List.setIfInBounds_toArray, List.set_cons_zero, List.set_cons_succ, List.getElem_toArray, List.getElem_cons_zero, List.getElem_cons_succ])
      clear hHeld
      refine wpAnyT_one (i := 5) rfl (by kernel_rfl) (fun K hK => ?_)
      go_simp
      go_at_call 61
      refine (HF0.out _).mono ?_
      rintro e w3 ⟨rfl, hb3⟩
      have HB3 := Lib.hid hb3
      clear hb3
      refine hK.out _ _ (fun _ => HSB.out _ HB3.out) ?_
      clear hK K
      (try simp only [Act.put, List.setIfInBounds_toArray, List.set_cons_zero, List.set_cons_succ, List.getElem_toArray, List.getElem_cons_zero, List.getElem_cons_succ])
      refine wpAnyT_one (i := 10) rfl (by kernel_rfl) (fun K hK => ?_)
      go_simp
      go_at_call 61
      refine (HF1.out _).mono ?_
      rintro e w4 ⟨rfl, hb4⟩
      have HB4 := Lib.hid (bt HB3.out (Nat.le_refl _) hb4)
      clear hb4
      refine hK.out _ _ (fun _ => HSB.out _ HB4.out) ?_
      clear hK K
      (try simp only [Act.put, List.setIfInBounds_toArray, List.set_cons_zero, List.set_cons_succ, List.getElem_toArray, List.getElem_cons_zero, List.getElem_cons_succ])
      refine wpAnyT_one (i := 15) rfl (by kernel_rfl) (fun K hK => ?_)
      go_simp
      go_at_call 61
      refine (HF2.out _).mono ?_
      rintro e w5 ⟨rfl, hb5⟩
      have HB5 := Lib.hid (bt HB4.out (Nat.le_refl _) hb5)
      clear hb5
      refine hK.out _ _ (fun _ => HSB.out _ HB5.out) ?_
      clear hK K
      (try simp only [Act.put, List.setIfInBounds_toArray, List.set_cons_zero, List.set_cons_succ, List.getElem_toArray, List.getElem_cons_zero, List.getElem_cons_succ])
      refine wpAnyT_one (i := 16) rfl (by kernel_rfl) (fun K hK => ?_)
      go_simp
      go_at_call 101
      refine (HGT.out _).mono ?_
      rintro e w6 ⟨hb6, gg, ga, gb, gd, rfl, hgb, hga, hgb2, hgc⟩
      obtain ⟨a1, a2, rfl⟩ := own_slice_k hga
      obtain ⟨a3, a4, rfl⟩ := own_slice_k hgb2
      obtain ⟨a5, a6, rfl⟩ := own_slice_k hgc
      have HB6 := Lib.hid (bt HBD.out (Nat.le_refl _) (bt HB5.out (Nat.le_refl _) hb6))
      have hle : wr.heap.size ≤ w5.heap.size := Nat.le_trans HBD.out.size HB5.out.size
      have HGB := Lib.hid hgb
      have HG1 := Lib.hid (own_le hga hle)
      have HG2 := Lib.hid (own_le hgb2 hle)
      have HG3 := Lib.hid (own_le hgc hle)
      have HKB := Lib.hid (HSB.out w6 (bt HB5.out (Nat.le_refl _) hb6))
      have HOW : Hid (w6.ownsRow W0.heap.size 81 1 (.slice UA k uc) k us) := Lib.hid (by have := own_below HDR.out.own HB6.out; rwa [HK.out] at this)
      clear hb6 hgb hga hgb2 hgc hle
      refine hK.out _ _ (fun _ => HKB.out) ?_
      clear hK K
      (try simp only [Act.put, List.setIfInBounds_toArray, List.set_cons_zero, List.set_cons_succ, List.getElem_toArray, List.getElem_cons_zero, List.getElem_cons_succ])
      refine wpAnyT_one (i := 17) rfl (by kernel_rfl) (fun K hK => ?_)
      refine step_append_any _ rfl (.tmp 21) (.tmp 37) _ rfl W0.heap.size 81 i0 _ 1 24 Try.underlying32 HI0.out.1 HI0.out.2.1 HI0.out.2.2.1 HI0.out.2.2.2 rfl (by omega) (.slice UA k uc) k us (by first | rfl | (simp [Act.eval])) HOW.out w6.heap.size (some ⟨gg, 0, none⟩) 3 3 [.slice a1 2 a2, .slice a3 2 a4, .slice a5 3 a6] (by first | rfl | (simp [Act.eval])) (reads_blkR HGB.out) (by simp [Value.oneCell']) (by simp only [maxLen]; omega) (by omega) (Nat.le_trans HBL.out.size HB6.out.size) ?_
      intro v7 w7 hown hg7 _
      obtain ⟨A7, c7', hf7⟩ := own_slice_k hown
      subst hf7
      have HDA := Lib.hid (DRow.app HDR.out HB6.out HBL.out.size (us2 := [.slice a1 2 a2, .slice a3 2 a4, .slice a5 3 a6]) (F2 := [[-x0, x1], [-x0, x2], [x0, -x1, -x2]]) rfl (threeR HG1.out HG2.out HG3.out) (by rw [HK.out]; exact hg7) (by rw [HK.out]; exact hown))
      have HB7 : Hid (Below W0.heap.size W0 w7) := Lib.hid ((HBL.out.trans (HB6.out.mono HBL.out.size)).grown hg7 (Nat.le_trans HBL.out.size HB6.out.size) (fun j hj => (HOW.out.lt j hj).1))
      have HK7 : Hid (Blk w7 w.heap.size 29 #[.int .i64 m, Vi, Vl, Vo, Vb, .slice CA nC cc, Vj, Vf, .slice (some ⟨b, off, none⟩) nA gc, Vs, Vt] ∧ Blk w7 xb 68 #[.int .i64 z0, .int .i64 z1, .int .i64 z2]) := Lib.hid ⟨Blk.grown HKB.out.1 hg7 (Ne.symm (own_blk_ne HOW.out HKB.out.1 (by decide))), Blk.grown HKB.out.2 hg7 (Ne.symm (own_blk_ne HOW.out HKB.out.2 (by decide)))⟩
      clear hown hg7
      refine hK.out _ _ (fun _ => HK7.out) ?_
      clear hK K
      (try simp only [Act.put, List.setIfInBounds_toArray, List.set_cons_zero, List.set_cons_succ, List.getElem_toArray, List.getElem_cons_zero, List.getElem_cons_succ])
      refine wpAnyT_one (i := 18) rfl (by kernel_rfl) (fun K hK => ?_)
      go_simp
      refine hK.out _ _ (fun _ => HK7.out) ?_
      clear hK K
      (try simp only [Act.put, List.setIfInBounds_toArray, List.set_cons_zero, List.set_cons_succ, List.getElem_toArray, List.getElem_cons_zero, List.getElem_cons_succ])
      refine wpAnyT_done (by kernel_rfl) ?_
      go_wp2
      go_roundg (nA - (q + 1))
      case measure => omega
      case rel => exact ⟨q + 1, us ++ [.slice a1 2 a2, .slice a3 2 a4, .slice a5 3 a6], by omega, rfl, by go_num, by rw [HTK.out]; exact HDA.out, HB7.out⟩
    · have hqe : nA = q := by omega
      subst hqe
      have HE : Hid ((C.ands.take nA).flatMap (gtT m t) = C.ands.flatMap (gtT m t)) := Lib.hid (by rw [List.take_of_length_le (by rw [HNA.out]; exact Nat.le_refl _)])
      have HDR0 := HDR
      have HBL0 := HBL
      have HK0 := HK
      rw [HE.out] at HDR0
      have hk9 := hk8
      clear HDR HBL HK HXW hk8 hq hlt HE
      go_wp2
      clear c0 c1 c2 c3 c4 c5 c6 c7 c8 c9 c10
      go_loopg [5, 8] nC (fun k vg jv wx => ∃ (q : Nat) (us : List Value), q ≤ nC ∧ k = nC - q ∧ jv = .int .i64 q ∧ DRow wx W0.heap.size vg us (C.ands.flatMap (gtT m t) ++ (C.constraints.take q).map fun l => [litT m t l]) ∧ Below W0.heap.size W0 wx)
      case atStart => exact ⟨0, us, Nat.zero_le _, rfl, rfl, by have := HDR0.out; rw [HK0.out] at this; simpa using this, HBL0.out⟩
      case round =>
        clear HDR0 HBL0 HK0 hk9
        obtain ⟨q, us, hq, hgk, rfl, hdr, hbl⟩ := hrel
        subst hgk
        obtain ⟨UA, uc, hue⟩ := own_slice_k hdr.own
        subst hue
        have HDR := Lib.hid hdr
        have HBL := Lib.hid hbl
        obtain ⟨k, hk⟩ : ∃ k, us.length = k := ⟨_, rfl⟩
        have HK := Lib.hid hk
        have hk8 : k ≤ 90000 := by
          have h9 := hdr.ul
          rw [hk, List.length_append, gtT_len, List.length_map, List.length_take, HNA.out] at h9
          omega
        have HXW : Hid (Blk wr w.heap.size 29 #[.int .i64 m, Vi, Vl, Vo, Vb, .slice CA nC cc, Vj, Vf, .slice GA nA gc, Vs, Vt]) := Lib.hid (HX.out.below hbl HX.out.lt)
        obtain ⟨c0, c1, c2, c3, c4, c5, c6, c7, c8, c9, c10⟩ := rbox_of HXW.out
        rw [hk]
        clear hdr hbl hk
        by_cases hlt : q < nC
        · obtain ⟨l, hl⟩ : ∃ l, C.constraints[q]? = some l := ⟨_, List.getElem?_eq_getElem (by rw [HNC.out]; exact hlt)⟩
          obtain ⟨b, off, e, hb, hcell⟩ := HRC.out q l hl
          subst e
          have hbs := HB.out.trans (HBL.out.mono HB.out.size)
          have h0 := (hbs.cell (p := ⟨b, off + (q * 1 + 0), none⟩) hb).trans (hcell 0 _ rfl)
          simp only [Nat.add_zero, Nat.mul_one] at h0
          have hli := HLI.out l (List.mem_of_getElem? hl)
          have HTK : Hid ((C.constraints.take (q + 1)).map (fun l => [litT m t l]) = (C.constraints.take q).map (fun l => [litT m t l]) ++ [[litT m t l]]) := Lib.hid (by rw [List.take_add_one, hl]; simp)
          have HF0 := Lib.hid (fun wx => HLT.out wx t l h2' h3' hli.1 hli.2)
          obtain ⟨y, hy⟩ : ∃ y, litT m t l = y := ⟨_, rfl⟩
          rw [hy] at HTK HF0
          have hk0 : (0 : Int) ≤ (q : Int) := by omega
          have hk1 : (q : Int) < (nC : Int) := by omega
          have HSB : Hid (∀ w3, Below wr.drew.heap.size wr.drew w3 → Blk w3 w.heap.size 29 #[.int .i64 m, Vi, Vl, Vo, Vb, .slice (some ⟨b, off, none⟩) nC cc, Vj, Vf, .slice GA nA gc, Vs, Vt] ∧ w3.cell? ⟨b, off + q, none⟩ = some (.int .i64 l)) := Lib.hid (fun w3 hb3 => ⟨HXW.out.drew.below hb3 HXW.out.drew.lt, (hb3.cell (p := ⟨b, off + q, none⟩) (Nat.lt_of_lt_of_le hb (Nat.le_trans HB.out.size HBL.out.size))).trans h0⟩)
          have HSD : Hid (∀ w3, Below W0.heap.size W0 w3 → Blk w3 w.heap.size 29 #[.int .i64 m, Vi, Vl, Vo, Vb, .slice (some ⟨b, off, none⟩) nC cc, Vj, Vf, .slice GA nA gc, Vs, Vt] ∧ w3.cell? ⟨b, off + q, none⟩ = some (.int .i64 l)) := Lib.hid (fun w3 hb3 => ⟨HX.out.below hb3 HX.out.lt, by have := ((HB.out.trans (hb3.mono HB.out.size)).cell (p := ⟨b, off + (q * 1 + 0), none⟩) hb).trans (hcell 0 _ rfl); simpa using this⟩)
          clear hcell hl hb hbs hy hli
          go_upto_region 10 with (fail)
          clear h0 c0 c1 c2 c3 c4 c5 c6 c7 c8 c9 c10
          refine wp_region_T (by kernel_rfl) (fun w' => Blk w' w.heap.size 29 #[.int .i64 m, Vi, Vl, Vo, Vb, .slice (some ⟨b, off, none⟩) nC cc, Vj, Vf, .slice GA nA gc, Vs, Vt] ∧ w'.cell? ⟨b, off + q, none⟩ = some (.int .i64 l)) 13 ?_
          have hHeld := HSB.out _ (Below.refl _ _)
          refine wpAnyT_take (i := 0) (v := ?v0q14) rfl (by kernel_rfl) (fun _ _ _ h => h) (by rfl) hHeld ?h0q14 ?_
          case h0q14 => (intro w' hSw; (try dsimp only at hSw); go_simp; try with_reducible rfl)
          (try simp only [Act.put, List.setIfInBounds_toArray, List.set_cons_zero, List.set_cons_succ, List.getElem_toArray, List.getElem_cons_zero])
          refine wpAnyT_take (i := 1) (v := ?v1q15) rfl (by kernel_rfl) (fun _ _ _ h => h) (by rfl) hHeld ?h1q15 ?_
          case h1q15 => (intro w' hSw; (try dsimp only at hSw); obtain ⟨c0, c1, c2, c3, c4, c5, c6, c7, c8, c9, c10⟩ := rbox_of hSw.1; go_simp; try with_reducible rfl)
          (try simp only [Act.put, List.setIfInBounds_toArray, List.set_cons_zero, List.set_cons_succ, List.getElem_toArray, List.getElem_cons_zero, List.getElem_cons_succ])
          refine wpAnyT_take (i := 2) (v := ?v2q16) rfl (by kernel_rfl) (fun _ _ _ h => h) (by rfl) hHeld ?h2q16 ?_
          case h2q16 => (intro w' hSw; (try dsimp only at hSw); obtain ⟨c0, c1, c2, c3, c4, c5, c6, c7, c8, c9, c10⟩ := rbox_of hSw.1; have e0 := hSw.2; go_simp; try with_reducible rfl)
          (try simp only [Act.put, List.setIfInBounds_toArray, List.set_cons_zero, List.set_cons_succ, List.getElem_toArray, List.getElem_cons_zero, List.getElem_cons_succ])
          refine wpAnyT_take (i := 3) (v := ?v3q17) rfl (by kernel_rfl) (fun _ _ _ h => h) (by rfl) hHeld ?h3q17 ?_
          case h3q17 => (intro w' hSw; (try dsimp only at hSw); obtain ⟨c0, c1, c2, c3, c4, c5, c6, c7, c8, c9, c10⟩ := rbox_of hSw.1; have e0 := hSw.2; go_simp; try with_reducible rfl)
          (try simp only [Act.put, List.setIfInBounds_toArray, List.set_cons_zero, List.set_cons_succ, List.getElem_toArray, List.getElem_cons_zero, List.getElem_cons_succ])
          refine wpAnyT_take (i := 4) (v := ?v4q18) rfl (by kernel_rfl) (fun _ _ _ h => h) (by rfl) hHeld ?h4q18 ?_
          case h4q18 => (intro w' hSw; (try dsimp only at hSw); obtain ⟨c0, c1, c2, c3, c4, c5, c6, c7, c8, c9, c10⟩ := rbox_of hSw.1; have e0 := hSw.2; go_simp; try with_reducible rfl)
          (try simp only [Act.put, List.setIfInBounds_toArray, List.set_cons_zero, List.set_cons_succ, List.getElem_toArray, List.getElem_cons_zero, List.getElem_cons_succ])
          refine wpAnyT_take (i := 5) (v := ?v5q19) rfl (by kernel_rfl) (fun _ _ _ h => h) (by rfl) hHeld ?h5q19 ?_
          case h5q19 => (intro w' hSw; (try dsimp only at hSw); obtain ⟨c0, c1, c2, c3, c4, c5, c6, c7, c8, c9, c10⟩ := rbox_of hSw.1; have e0 := hSw.2; go_simp; try with_reducible rfl)
          (try simp only [Act.put, List.setIfInBounds_toArray, List.set_cons_zero, List.set_cons_succ, List.getElem_toArray, List.getElem_cons_zero, List.getElem_cons_succ])
          refine wpAnyT_take (i := 6) (v := ?v6q20) rfl (by kernel_rfl) (fun _ _ _ h => h) (by rfl) hHeld ?h6q20 ?_
          case h6q20 => (intro w' hSw; (try dsimp only at hSw); obtain ⟨c0, c1, c2, c3, c4, c5, c6, c7, c8, c9, c10⟩ := rbox_of hSw.1; have e0 := hSw.2; go_simp; try with_reducible rfl)
          (try simp only [Act.put, List.setIfInBounds_toArray, List.set_cons_zero, List.set_cons_succ, List.getElem_toArray, List.getElem_cons_zero, List.getElem_cons_succ])
          refine wpAnyT_take (i := 7) (v := ?v7q21) rfl (by kernel_rfl) (fun _ _ _ h => h) (by rfl) hHeld ?h7q21 ?_
          case h7q21 => (intro w' hSw; (try dsimp only at hSw); obtain ⟨c0, c1, c2, c3, c4, c5, c6, c7, c8, c9, c10⟩ := rbox_of hSw.1; have e0 := hSw.2; go_simp; try with_reducible rfl)
          (try simp only [Act.put, List.setIfInBounds_toArray, List.set_cons_zero, List.set_cons_succ, List.getElem_toArray, List.getElem_cons_zero, List.getElem_cons_succ])
          clear hHeld
          refine wpAnyT_one (i := 8) rfl (by kernel_rfl) (fun K hK => ?_)
          go_simp
          go_at_call 61
          refine (HF0.out _).mono ?_
          rintro e w1 ⟨rfl, hb1⟩
          have HB1 := Lib.hid (bt (Below.refl wr.heap.size wr).drew (Nat.le_refl _) hb1)
          have HKB := Lib.hid (HSB.out _ hb1)
          clear hb1
          refine hK.out _ _ (fun _ => HKB.out) ?_
          clear hK K
          (try simp only [Act.put, List.setIfInBounds_toArray, List.set_cons_zero, List.set_cons_succ, List.getElem_toArray, List.getElem_cons_zero, List.getElem_cons_succ])
          refine wpAnyT_one (i := 9) rfl (by kernel_rfl) (fun K hK => ?_)
          go_simp
          refine hK.out _ _ (fun _ => ⟨HKB.out.1.alloc _, (Below.cell (Below.refl w1.heap.size w1 |>.alloc (Nat.le_refl _) _) (p := ⟨b, off + q, none⟩) (cell_ltR HKB.out.2)).trans HKB.out.2⟩) ?_
          clear hK K
          (try simp only [Act.put, List.setIfInBounds_toArray, List.set_cons_zero, List.set_cons_succ, List.getElem_toArray, List.getElem_cons_zero, List.getElem_cons_succ])
          refine wpAnyT_one (i := 10) rfl (by kernel_rfl) (fun K hK => ?_)
          go_simp
          refine hK.out _ _ (fun _ => ⟨(HKB.out.1.alloc _).alloc _, (Below.cell ((Below.refl w1.heap.size w1 |>.alloc (Nat.le_refl _) _).alloc (by simp) _) (p := ⟨b, off + q, none⟩) (cell_ltR HKB.out.2)).trans HKB.out.2⟩) ?_
          clear hK K
          (try simp only [Act.put, List.setIfInBounds_toArray, List.set_cons_zero, List.set_cons_succ, List.getElem_toArray, List.getElem_cons_zero, List.getElem_cons_succ])
          refine wpAnyT_one (i := 11) rfl (by kernel_rfl) (fun K hK => ?_)
          refine step_append_any _ rfl (.tmp 46) (.tmp 56) _ rfl W0.heap.size 81 i0 _ 1 24 Try.underlying32 HI0.out.1 HI0.out.2.1 HI0.out.2.2.1 HI0.out.2.2.2 rfl (by omega) (.slice UA k uc) k us (by first | rfl | (simp [Act.eval])) (by have := own_below HDR.out.own (HB1.out.alloc HB1.out.size (.cells #[.int .i64 y] 3)); have := own_below this ((Below.refl _ _).alloc (Nat.le_refl _) (.cells #[.slice (some ⟨w1.heap.size, 0, none⟩) 1 1] 81)); rw [HK.out] at this; exact this) (w1.heap.size + 1 + 1) (some ⟨w1.heap.size + 1, 0, none⟩) 1 1 [.slice (some ⟨w1.heap.size, 0, none⟩) 1 1] (by first | rfl | (simp [Act.eval])) (by have := reads_one (w1.alloc (.cells #[.int .i64 y] 3)) (.slice (some ⟨w1.heap.size, 0, none⟩) 1 1) 81; simpa using this) (by simp [Value.oneCell']) (by simp only [maxLen]; omega) (by omega) (by have h1 := HB1.out.size; have h2 := HBL.out.size; simp; omega) ?_
          intro v2 w2 hown2 hg2 _
          obtain ⟨A2, k2, hf2⟩ := own_slice_k hown2
          subst hf2
          have hb2 : Below wr.heap.size wr ((w1.alloc (.cells #[.int .i64 y] 3)).alloc (.cells #[.slice (some ⟨w1.heap.size, 0, none⟩) 1 1] 81)) := (HB1.out.alloc HB1.out.size _).alloc (by have := HB1.out.size; simp; omega) _
          have HDA := Lib.hid (DRow.app HDR.out hb2 HBL.out.size (us2 := [.slice (some ⟨w1.heap.size, 0, none⟩) 1 1]) (F2 := [[y]]) rfl (oneR (x := [y]) (own_le (own_below (own_oneB w1 (.int .i64 y)) ((Below.refl _ _).alloc (Nat.le_refl _) _)) HB1.out.size)) (by rw [HK.out]; exact hg2) (by rw [HK.out]; exact hown2))
          have HB2 : Hid (Below W0.heap.size W0 w2) := Lib.hid ((HBL.out.trans (hb2.mono HBL.out.size)).grown hg2 (by have h1 := HB1.out.size; have h2 := HBL.out.size; simp; omega) (fun j hj => (HDR.out.own.lt j (by rw [HK.out]; exact hj)).1))
          have HK2 := Lib.hid (HSD.out _ HB2.out)
          clear hown2 hg2 hb2
          refine hK.out _ _ (fun _ => HK2.out) ?_
          clear hK K
          (try simp only [Act.put, List.setIfInBounds_toArray, List.set_cons_zero, List.set_cons_succ, List.getElem_toArray, List.getElem_cons_zero, List.getElem_cons_succ])
          refine wpAnyT_one (i := 12) rfl (by kernel_rfl) (fun K hK => ?_)
          go_simp
          refine hK.out _ _ (fun _ => HK2.out) ?_
          clear hK K
          (try simp only [Act.put, List.setIfInBounds_toArray, List.set_cons_zero, List.set_cons_succ, List.getElem_toArray, List.getElem_cons_zero, List.getElem_cons_succ])
          refine wpAnyT_done (by kernel_rfl) ?_
          go_wp2
          go_roundg (nC - (q + 1))
          case measure => omega
          case rel => exact ⟨q + 1, _, by omega, rfl, by go_num, by rw [HTK.out, ← List.append_assoc]; exact HDA.out, HB2.out⟩
        · have hqe : nC = q := by omega
          subst hqe
          have HE : Hid ((C.constraints.take nC).map (fun l => [litT m t l]) = C.constraints.map fun l => [litT m t l]) := Lib.hid (by rw [List.take_of_length_le (by rw [HNC.out]; exact Nat.le_refl _)])
          go_wp2
          go_ret
          refine ⟨HB.out.trans (HBL.out.mono HB.out.size), _, us, rfl, ?_⟩
          have := HDR.out.base HB.out.size
          rw [HE.out, HK.out] at this
          exact this
end Go.Proofs.Ytdodhbfplglbkaa

namespace Go.Proofs.Ytdodhbfplglbkaa
open Go.RowKit

set_option maxHeartbeats 20000000 in
set_option maxRecDepth 100000 in
theorem rfNext0_any (w : World) (V : CV) (C : Circ) (t : Int) (h : C.In w V) (hz : (checkR C).2 = 0) (h2' : 0 ≤ t) (h3' : t ≤ 599) :
    Calls Try.prog 69 #[V.val C.max, .int .i64 t] w fun e w' => Below w.heap.size w w' ∧ ∃ v us, e = .returned v ∧ DRow w' w.heap.size v us (nxtT C t) := by
  have hr := right_of hz
  obtain ⟨m, hm⟩ : ∃ m : Int, C.max = m := ⟨_, rfl⟩
  have hm0 : 0 ≤ m := by rw [← hm]; exact hr.m0
  have hm1 : m ≤ 16384 := by rw [← hm]; exact hr.m1
  have HLT := Lib.hid (fun (wx : World) (t l : Int) (h2 : 0 ≤ t) (h3 : t ≤ 600) (h4 : 0 ≤ l) (h5 : l ≤ 1000000) => rlitF_any wx V m t l hm0 hm1 h2 h3 h4 h5)
  have HTI : Hid (∀ t l : Int, 0 ≤ t → t ≤ 600 → 0 ≤ l → l ≤ 1000000 → -11000000 ≤ litT m t l ∧ litT m t l ≤ 11000000) := Lib.hid (fun t l h1 h2 h3 h4 => by
    obtain ⟨g0, g1⟩ := mul_in h1 h2 hm0 hm1
    exact movF_in g0 g1 (by unfold litC; split <;> omega) (by unfold litC; split <;> omega))
  obtain ⟨W0, hW0⟩ : ∃ W0, w.alloc (.cells (V.cells m) 29) = W0 := ⟨_, rfl⟩
  have HB : Hid (Below w.heap.size w W0) := Lib.hid (by rw [← hW0]; exact (Below.refl _ _).alloc (Nat.le_refl _) _)
  have HX : Hid (Blk W0 w.heap.size 29 (V.cells m)) := Lib.hid (by rw [← hW0]; exact Blk.new w _ _)
  have HW0 := Lib.hid hW0
  obtain ⟨i0, hi0, hz0, hz1, hz2⟩ := info_of2 infoCl
  have HI0 := Lib.hid (And.intro hi0 (And.intro hz0 (And.intro hz1 hz2)))
  have HLI : Hid (∀ z ∈ C.latches, (0 ≤ z.1 ∧ z.1 ≤ 1000000) ∧ (0 ≤ z.2.1 ∧ z.2.1 ≤ 1000000)) := Lib.hid (fun z hl => by have := hr.l z hl; unfold LitOk at this; omega)
  have hcn := hr.nl
  obtain ⟨LA, lc, ec, _, _, hrun⟩ := h.l
  obtain ⟨nL, hn⟩ : ∃ n, C.latches.length = n := ⟨_, rfl⟩
  rw [hn] at ec hcn
  have HN := Lib.hid hn
  have HRUN := Lib.hid hrun
  obtain ⟨Vi, Vl, Vo, Vb, Vc, Vj, Vf, Va, Vs, Vt⟩ := V
  simp only at ec
  subst ec
  have hct : nxtT C t = C.latches.flatMap (nxtC m t) := by unfold nxtT; rw [hm]
  rw [hct, hm]
  clear hW0 hr h hz hrun hn hm hct hi0 hz0 hz1 hz2
  go_enter Try.func69, Try.ntmps69
  go_upto_region 1 with (fail)
  rw [HW0.out]
  go_wp2
  go_loopg [5, 6] nL (fun k vg jv wx => ∃ (q : Nat) (us : List Value), q ≤ nL ∧ k = nL - q ∧ jv = .int .i64 q ∧ DRow wx W0.heap.size vg us ((C.latches.take q).flatMap (nxtC m t)) ∧ Below W0.heap.size W0 wx)
  case atStart => exact ⟨0, [], Nat.zero_le _, rfl, rfl, drow_none _ _, Below.refl _ _⟩
  case round =>
    obtain ⟨q, us, hq, hgk, rfl, hdr, hbl⟩ := hrel
    subst hgk
    obtain ⟨UA, uc, hue⟩ := own_slice_k hdr.own
    subst hue
    have HDR := Lib.hid hdr
    have HBL := Lib.hid hbl
    obtain ⟨k, hk⟩ : ∃ k, us.length = k := ⟨_, rfl⟩
    have HK := Lib.hid hk
    have hk8 : k ≤ 40000 := by
      have h9 := hdr.ul
      rw [hk] at h9
      have h8 := nxtC_len m t (C.latches.take q)
      rw [← h9, List.length_take] at h8
      omega
    have HXW : Hid (Blk wr w.heap.size 29 #[.int .i64 m, Vi, .slice LA nL lc, Vo, Vb, Vc, Vj, Vf, Va, Vs, Vt]) := Lib.hid (HX.out.below hbl HX.out.lt)
    obtain ⟨c0, c1, c2, c3, c4, c5, c6, c7, c8, c9, c10⟩ := rbox_of HXW.out
    rw [hk]
    clear hdr hbl hk
    by_cases hlt : q < nL
    · obtain ⟨z, hl⟩ : ∃ z, C.latches[q]? = some z := ⟨_, List.getElem?_eq_getElem (by rw [HN.out]; exact hlt)⟩
      obtain ⟨b, off, e, hb, hcell⟩ := HRUN.out q z hl
      subst e
      obtain ⟨z0, z1, z2⟩ := z
      have HSD : Hid (∀ w3, Below W0.heap.size W0 w3 → Blk w3 w.heap.size 29 #[.int .i64 m, Vi, .slice (some ⟨b, off, none⟩) nL lc, Vo, Vb, Vc, Vj, Vf, Va, Vs, Vt] ∧ w3.cell? ⟨b, off + q * 3, none⟩ = some (.int .i64 z0) ∧ w3.cell? ⟨b, off + q * 3 + 1, none⟩ = some (.int .i64 z1) ∧ w3.cell? ⟨b, off + q * 3 + 2, none⟩ = some (.int .i64 z2)) := Lib.hid (fun w3 hb3 => by
        have hbs := HB.out.trans (hb3.mono HB.out.size)
        have h0 := (hbs.cell (p := ⟨b, off + (q * 3 + 0), none⟩) hb).trans (hcell 0 _ rfl)
        have h1 := (hbs.cell (p := ⟨b, off + (q * 3 + 1), none⟩) hb).trans (hcell 1 _ rfl)
        have h2 := (hbs.cell (p := ⟨b, off + (q * 3 + 2), none⟩) hb).trans (hcell 2 _ rfl)
        simp only [Nat.add_zero, ← Nat.add_assoc] at h0 h1 h2
        exact ⟨HX.out.below hb3 HX.out.lt, h0, h1, h2⟩)
      obtain ⟨⟨l0, l1⟩, l2, l3⟩ := HLI.out _ (List.mem_of_getElem? hl)
      simp only at l0 l1 l2 l3
      have HTK : Hid ((C.latches.take (q + 1)).flatMap (nxtC m t) = (C.latches.take q).flatMap (nxtC m t) ++ nxtC m t (z0, z1, z2)) := Lib.hid (by rw [List.take_add_one, hl, List.flatMap_append]; simp)
      have hk0 : (0 : Int) ≤ (q : Int) := by omega
      have hk1 : (q : Int) < (nL : Int) := by omega
      have ht1 := HTI.out (t + 1) z0 (by omega) (by omega) l0 l1
      have ht2 := HTI.out t z1 h2' (by omega) l2 l3
      have HA1 := Lib.hid (fun wx => HLT.out wx (t + 1) z0 (by omega) (by omega) l0 l1)
      have HA2 := Lib.hid (fun wx => HLT.out wx t z1 h2' (by omega) l2 l3)
      have HFE : Hid (nxtC m t (z0, z1, z2) = [[-(litT m (t + 1) z0), litT m t z1], [litT m (t + 1) z0, -(litT m t z1)]]) := Lib.hid rfl
      rw [HFE.out] at HTK
      obtain ⟨x, hx⟩ : ∃ x, litT m (t + 1) z0 = x := ⟨_, rfl⟩
      obtain ⟨y, hy⟩ : ∃ y, litT m t z1 = y := ⟨_, rfl⟩
      rw [hx] at HA1 HTK ht1
      rw [hy] at HA2 HTK ht2
      have hwt : IntKind.i64.wrap (t + 1) = t + 1 := i64_in (by omega)
      have hwx : IntKind.i64.wrap (-x) = -x := i64_in (by omega)
      have hwy : IntKind.i64.wrap (-y) = -y := i64_in (by omega)
      clear hcell hl hb ht1 ht2 hx hy HFE
      go_upto_region 5 with (fail)
      clear c0 c1 c2 c3 c4 c5 c6 c7 c8 c9 c10
      refine wp_region_T (by kernel_rfl) (fun w' => Blk w' w.heap.size 29 #[.int .i64 m, Vi, .slice (some ⟨b, off, none⟩) nL lc, Vo, Vb, Vc, Vj, Vf, Va, Vs, Vt] ∧ w'.cell? ⟨b, off + q * 3, none⟩ = some (.int .i64 z0) ∧ w'.cell? ⟨b, off + q * 3 + 1, none⟩ = some (.int .i64 z1) ∧ w'.cell? ⟨b, off + q * 3 + 2, none⟩ = some (.int .i64 z2)) 21 ?_
      have hHeld := HSD.out _ HBL.out.drew
      refine wpAnyT_take (i := 0) (v := ?v0q1) rfl (by kernel_rfl) (fun _ _ _ h => h) (by rfl) hHeld ?h0q1 ?_
      case h0q1 => (intro w' hSw; (try dsimp only at hSw); obtain ⟨c0, c1, c2, c3, c4, c5, c6, c7, c8, c9, c10⟩ := rbox_of hSw.1; go_simp; try with_reducible rfl)
      (try simp only [Act.put, List.setIfInBounds_toArray, List.set_cons_zero, List.set_cons_succ, List.getElem_toArray, List.getElem_cons_zero])
      refine wpAnyT_take (i := 1) (v := ?v1q2) rfl (by kernel_rfl) (fun _ _ _ h => h) (by rfl) hHeld ?h1q2 ?_
      case h1q2 => (intro w' hSw; (try dsimp only at hSw); obtain ⟨c0, c1, c2, c3, c4, c5, c6, c7, c8, c9, c10⟩ := rbox_of hSw.1; go_simp; try with_reducible rfl)
      (try simp only [Act.put, List.setIfInBounds_toArray, List.set_cons_zero, List.set_cons_succ, List.getElem_toArray, List.getElem_cons_zero, List.getElem_cons_succ])
      refine wpAnyT_take (i := 2) (v := ?v2q3) rfl (by kernel_rfl) (fun _ _ _ h => h) (by rfl) hHeld ?h2q3 ?_
      case h2q3 => (intro w' hSw; (try dsimp only at hSw); obtain ⟨c0, c1, c2, c3, c4, c5, c6, c7, c8, c9, c10⟩ := rbox_of hSw.1; go_simp; try with_reducible rfl)
      (try simp only [Act.put, List.setIfInBounds_toArray, List.set_cons_zero, List.set_cons_succ, List.getElem_toArray, List.getElem_cons_zero, List.getElem_cons_succ])
      refine wpAnyT_take (i := 3) (v := ?v3q4) rfl (by kernel_rfl) (fun _ _ _ h => h) (by rfl) hHeld ?h3q4 ?_
      case h3q4 => (intro w' hSw; (try dsimp only at hSw); go_simp; try with_reducible rfl)
      (try simp only [Act.put, List.setIfInBounds_toArray, List.set_cons_zero, List.set_cons_succ, List.getElem_toArray, List.getElem_cons_zero, List.getElem_cons_succ])
      refine wpAnyT_take (i := 4) (v := ?v4q5) rfl (by kernel_rfl) (fun _ _ _ h => h) (by rfl) hHeld ?h4q5 ?_
      case h4q5 => (intro w' hSw; (try dsimp only at hSw); go_simp; try with_reducible rfl)
      (try simp only [Act.put, List.setIfInBounds_toArray, List.set_cons_zero, List.set_cons_succ, List.getElem_toArray, List.getElem_cons_zero, List.getElem_cons_succ])
      refine wpAnyT_take (i := 5) (v := ?v5q6) rfl (by kernel_rfl) (fun _ _ _ h => h) (by rfl) hHeld ?h5q6 ?_
      case h5q6 => (intro w' hSw; (try dsimp only at hSw); go_simp; try with_reducible rfl)
      (try simp only [Act.put, List.setIfInBounds_toArray, List.set_cons_zero, List.set_cons_succ, List.getElem_toArray, List.getElem_cons_zero, List.getElem_cons_succ])
      refine wpAnyT_take (i := 6) (v := ?v6q7) rfl (by kernel_rfl) (fun _ _ _ h => h) (by rfl) hHeld ?h6q7 ?_
      case h6q7 => (intro w' hSw; (try dsimp only at hSw); obtain ⟨c0, c1, c2, c3, c4, c5, c6, c7, c8, c9, c10⟩ := rbox_of hSw.1; have e0 := hSw.2.1; have e1 := hSw.2.2.1; have e2 := hSw.2.2.2; go_simp; try with_reducible rfl)
      (try simp only [Act.put, List.setIfInBounds_toArray, List.set_cons_zero, List.set_cons_succ, List.getElem_toArray, List.getElem_cons_zero, List.getElem_cons_succ])
      refine wpAnyT_take (i := 7) (v := ?v7q8) rfl (by kernel_rfl) (fun _ _ _ h => h) (by rfl) hHeld ?h7q8 ?_
      case h7q8 => (intro w' hSw; (try dsimp only at hSw); go_simp; try with_reducible rfl)
      (try simp only [Act.put, List.setIfInBounds_toArray, List.set_cons_zero, List.set_cons_succ, List.getElem_toArray, List.getElem_cons_zero, List.getElem_cons_succ])
      refine wpAnyT_take (i := 8) (v := ?v8q9) rfl (by kernel_rfl) (fun _ _ _ h => h) (by rfl) hHeld ?h8q9 ?_
      case h8q9 => (intro w' hSw; (try dsimp only at hSw); go_simp; try with_reducible rfl)
      (try simp only [Act.put, List.setIfInBounds_toArray, List.set_cons_zero, List.set_cons_succ, List.getElem_toArray, List.getElem_cons_zero, List.getElem_cons_succ])
      refine wpAnyT_take (i := 10) (v := ?v10q10) rfl (by kernel_rfl) (fun _ _ _ h => h) (by rfl) hHeld ?h10q10 ?_
      case h10q10 => (intro w' hSw; (try dsimp only at hSw); obtain ⟨c0, c1, c2, c3, c4, c5, c6, c7, c8, c9, c10⟩ := rbox_of hSw.1; go_simp; try with_reducible rfl)
      (try simp only [Act.put, List.setIfInBounds_toArray, List.set_cons_zero, List.set_cons_succ, List.getElem_toArray, List.getElem_cons_zero, List.getElem_cons_succ])
      refine wpAnyT_take (i := 11) (v := ?v11q11) rfl (by kernel_rfl) (fun _ _ _ h => h) (by rfl) hHeld ?h11q11 ?_
      case h11q11 => (intro w' hSw; (try dsimp only at hSw); obtain ⟨c0, c1, c2, c3, c4, c5, c6, c7, c8, c9, c10⟩ := rbox_of hSw.1; go_simp; try with_reducible rfl)
      (try simp only [Act.put, List.setIfInBounds_toArray, List.set_cons_zero, List.set_cons_succ, List.getElem_toArray, List.getElem_cons_zero, List.getElem_cons_succ])
      refine wpAnyT_take (i := 12) (v := ?v12q12) rfl (by kernel_rfl) (fun _ _ _ h => h) (by rfl) hHeld ?h12q12 ?_
      case h12q12 => (intro w' hSw; (try dsimp only at hSw); obtain ⟨c0, c1, c2, c3, c4, c5, c6, c7, c8, c9, c10⟩ := rbox_of hSw.1; go_simp; try with_reducible rfl)
      (try simp only [Act.put, List.setIfInBounds_toArray, List.set_cons_zero, List.set_cons_succ, List.getElem_toArray, List.getElem_cons_zero, List.getElem_cons_succ])
      refine wpAnyT_take (i := 13) (v := ?v13q13) rfl (by kernel_rfl) (fun _ _ _ h => h) (by rfl) hHeld ?h13q13 ?_
      case h13q13 => (intro w' hSw; (try dsimp only at hSw); go_simp; try with_reducible rfl)
      (try simp only [Act.put, List.setIfInBounds_toArray, List.set_cons_zero, List.set_cons_succ, List.getElem_toArray, List.getElem_cons_zero, List.getElem_cons_succ])
      refine wpAnyT_take (i := 14) (v := ?v14q14) rfl (by kernel_rfl) (fun _ _ _ h => h) (by rfl) hHeld ?h14q14 ?_
      case h14q14 => (intro w' hSw; (try dsimp only at hSw); go_simp; try with_reducible rfl)
      (try simp only [Act.put, List.setIfInBounds_toArray, List.set_cons_zero, List.set_cons_succ, List.getElem_toArray, List.getElem_cons_zero, List.getElem_cons_succ])
      refine wpAnyT_take (i := 15) (v := ?v15q15) rfl (by kernel_rfl) (fun _ _ _ h => h) (by rfl) hHeld ?h15q15 ?_
      case h15q15 => (intro w' hSw; (try dsimp only at hSw); go_simp; try with_reducible rfl)
      (try simp only [Act.put, List.setIfInBounds_toArray, List.set_cons_zero, List.set_cons_succ, List.getElem_toArray, List.getElem_cons_zero, List.getElem_cons_succ])
      refine wpAnyT_take (i := 16) (v := ?v16q16) rfl (by kernel_rfl) (fun _ _ _ h => h) (by rfl) hHeld ?h16q16 ?_
      case h16q16 => (intro w' hSw; (try dsimp only at hSw); obtain ⟨c0, c1, c2, c3, c4, c5, c6, c7, c8, c9, c10⟩ := rbox_of hSw.1; have e0 := hSw.2.1; have e1 := hSw.2.2.1; have e2 := hSw.2.2.2; go_simp; try with_reducible rfl)
      (try simp only [Act.put, List.setIfInBounds_toArray, List.set_cons_zero, List.set_cons_succ, List.getElem_toArray, List.getElem_cons_zero, List.getElem_cons_succ])
      refine wpAnyT_take (i := 17) (v := ?v17q17) rfl (by kernel_rfl) (fun _ _ _ h => h) (by rfl) hHeld ?h17q17 ?_
      case h17q17 => (intro w' hSw; (try dsimp only at hSw); go_simp; try with_reducible rfl)
      (try simp only [Act.put, List.setIfInBounds_toArray, List.set_cons_zero, List.set_cons_succ, List.getElem_toArray, List.getElem_cons_zero, List.getElem_cons_succ])
      clear hHeld
      refine wpAnyT_one (i := 9) rfl (by kernel_rfl) (fun K hK => ?_)
      go_simp
      go_at_call 61
      refine (HA1.out _).mono ?_
      rintro e w3 ⟨rfl, hb3⟩
      have HB3 : Hid (Below wr.heap.size wr w3) := Lib.hid (bt (Below.refl wr.heap.size wr).drew (Nat.le_refl _) hb3)
      clear hb3
      refine hK.out _ _ (fun _ => HSD.out _ (HBL.out.trans (HB3.out.mono HBL.out.size))) ?_
      clear hK K
      (try simp only [Act.put, List.setIfInBounds_toArray, List.set_cons_zero, List.set_cons_succ, List.getElem_toArray, List.getElem_cons_zero, List.getElem_cons_succ])
      refine wpAnyT_one (i := 18) rfl (by kernel_rfl) (fun K hK => ?_)
      go_simp
      go_at_call 61
      refine (HA2.out _).mono ?_
      rintro e w1 ⟨rfl, hb1⟩
      have HB1 : Hid (Below wr.heap.size wr w1) := Lib.hid (bt HB3.out (Nat.le_refl _) hb1)
      clear hb1
      refine hK.out _ _ (fun _ => HSD.out _ (HBL.out.trans (HB1.out.mono HBL.out.size))) ?_
      clear hK K
      (try simp only [Act.put, List.setIfInBounds_toArray, List.set_cons_zero, List.set_cons_succ, List.getElem_toArray, List.getElem_cons_zero, List.getElem_cons_succ])
      refine wpAnyT_one (i := 19) rfl (by kernel_rfl) (fun K hK => ?_)
      go_simp
      refine hK.out _ _ (fun _ => HSD.out _ (HBL.out.trans (HB1.out.mono HBL.out.size))) ?_
      clear hK K
      (try simp only [Act.put, List.setIfInBounds_toArray, List.set_cons_zero, List.set_cons_succ, List.getElem_toArray, List.getElem_cons_zero, List.getElem_cons_succ])
      refine wpAnyT_one (i := 20) rfl (by kernel_rfl) (fun K hK => ?_)
      go_simp
      refine hK.out _ _ (fun _ => HSD.out _ (HBL.out.trans (HB1.out.mono HBL.out.size))) ?_
      clear hK K
      (try simp only [Act.put, List.setIfInBounds_toArray, List.set_cons_zero, List.set_cons_succ, List.getElem_toArray, List.getElem_cons_zero, List.getElem_cons_succ])
      refine wpAnyT_done (by kernel_rfl) ?_
      go_wp2_with (at_builtin; refine wpList_append_any _ rfl (.tmp 35) (.tmp 44) _ rfl W0.heap.size 81 i0 _ 1 24 Try.underlying32 HI0.out.1 HI0.out.2.1 HI0.out.2.2.1 HI0.out.2.2.2 rfl (by omega) (.slice UA k uc) k us rfl (by have := own_below HDR.out.own (((HB1.out.alloc HB1.out.size (.cells #[.int .i64 (-x), .int .i64 y] 3)).alloc (by have := HB1.out.size; simp; omega) (.cells #[.int .i64 x, .int .i64 (-y)] 3)).alloc (by have := HB1.out.size; simp; omega) (.cells #[.slice (some ⟨w1.heap.size, 0, none⟩) 2 2, .slice (some ⟨w1.heap.size + 1, 0, none⟩) 2 2] 81)); rw [HK.out] at this; exact this) (w1.heap.size + 1 + 1 + 1) (some ⟨w1.heap.size + 1 + 1, 0, none⟩) 2 2 [.slice (some ⟨w1.heap.size, 0, none⟩) 2 2, .slice (some ⟨w1.heap.size + 1, 0, none⟩) 2 2] rfl (by have := reads_twoF ((w1.alloc (.cells #[.int .i64 (-x), .int .i64 y] 3)).alloc (.cells #[.int .i64 x, .int .i64 (-y)] 3)) (.slice (some ⟨w1.heap.size, 0, none⟩) 2 2) (.slice (some ⟨w1.heap.size + 1, 0, none⟩) 2 2) 81; simpa using this) (by simp [Value.oneCell']) (by simp only [maxLen]; omega) (by omega) (by have h1 := HB1.out.size; have h2 := HBL.out.size; simp; omega) ?_; intro v2 w2 hown2 hg2 hat2; obtain ⟨A2, c2', hf2⟩ := own_slice_k hown2; subst hf2; have HO2 := Lib.hid hown2; have HG2 := Lib.hid hg2; clear hown2 hg2 hat2)
      go_roundg (nL - (q + 1))
      case measure => omega
      case rel =>
        have hb2 : Below wr.heap.size wr (((w1.alloc (.cells #[.int .i64 (-x), .int .i64 y] 3)).alloc (.cells #[.int .i64 x, .int .i64 (-y)] 3)).alloc (.cells #[.slice (some ⟨w1.heap.size, 0, none⟩) 2 2, .slice (some ⟨w1.heap.size + 1, 0, none⟩) 2 2] 81)) := ((HB1.out.alloc HB1.out.size _).alloc (by have := HB1.out.size; simp; omega) _).alloc (by have := HB1.out.size; simp; omega) _
        refine ⟨q + 1, us ++ [.slice (some ⟨w1.heap.size, 0, none⟩) 2 2, .slice (some ⟨w1.heap.size + 1, 0, none⟩) 2 2], by omega, rfl, by go_num, ?_, (HBL.out.trans (hb2.mono HBL.out.size)).grown HG2.out (by have h1 := HB1.out.size; have h2 := HBL.out.size; simp; omega) (fun j hj => (HDR.out.own.lt j (by rw [HK.out]; exact hj)).1)⟩
        rw [HTK.out]
        exact HDR.out.app hb2 HBL.out.size rfl (fun i u zs hu hz => own_le (two_rows i u zs hu hz) HB1.out.size) (by rw [HK.out]; exact HG2.out) (by rw [HK.out]; exact HO2.out)
    · have hqe : nL = q := by omega
      subst hqe
      have HE : Hid ((C.latches.take nL).flatMap (nxtC m t) = C.latches.flatMap (nxtC m t)) := Lib.hid (by rw [List.take_of_length_le (by rw [HN.out]; exact Nat.le_refl _)])
      go_wp2
      go_ret
      refine ⟨HB.out.trans (HBL.out.mono HB.out.size), _, us, rfl, ?_⟩
      have := HDR.out.base HB.out.size
      rw [HE.out, HK.out] at this
      exact this

set_option maxHeartbeats 20000000 in
set_option maxRecDepth 100000 in
theorem rfFirst0_any (w : World) (V : CV) (C : Circ) (h : C.In w V) (hz : (checkR C).2 = 0) :
    Calls Try.prog 71 #[V.val C.max] w fun e w' => Below w.heap.size w w' ∧ ∃ v us, e = .returned v ∧ DRow w' w.heap.size v us (resT C 0) := by
  obtain ⟨t, ht⟩ : ∃ t : Int, t = 0 := ⟨_, rfl⟩
  rw [← ht]
  have h2' : 0 ≤ t := by omega
  have h3' : t ≤ 600 := by omega
  have HT := Lib.hid ht
  clear ht
  have hr := right_of hz
  obtain ⟨m, hm⟩ : ∃ m : Int, C.max = m := ⟨_, rfl⟩
  have hm0 : 0 ≤ m := by rw [← hm]; exact hr.m0
  have hm1 : m ≤ 16384 := by rw [← hm]; exact hr.m1
  have HLT := Lib.hid (fun (wx : World) (t l : Int) (h2 : 0 ≤ t) (h3 : t ≤ 600) (h4 : 0 ≤ l) (h5 : l ≤ 1000000) => rlitF_any wx V m t l hm0 hm1 h2 h3 h4 h5)
  have HTI : Hid (∀ t l : Int, 0 ≤ t → t ≤ 600 → 0 ≤ l → l ≤ 1000000 → -11000000 ≤ litT m t l ∧ litT m t l ≤ 11000000) := Lib.hid (fun t l h1 h2 h3 h4 => by
    obtain ⟨g0, g1⟩ := mul_in h1 h2 hm0 hm1
    exact movF_in g0 g1 (by unfold litC; split <;> omega) (by unfold litC; split <;> omega))
  obtain ⟨W0, hW0⟩ : ∃ W0, w.alloc (.cells (V.cells m) 29) = W0 := ⟨_, rfl⟩
  have HB : Hid (Below w.heap.size w W0) := Lib.hid (by rw [← hW0]; exact (Below.refl _ _).alloc (Nat.le_refl _) _)
  have HX : Hid (Blk W0 w.heap.size 29 (V.cells m)) := Lib.hid (by rw [← hW0]; exact Blk.new w _ _)
  have HW0 := Lib.hid hW0
  obtain ⟨i0, hi0, hz0, hz1, hz2⟩ := info_of2 infoCl
  have HI0 := Lib.hid (And.intro hi0 (And.intro hz0 (And.intro hz1 hz2)))
  have HLI : Hid (∀ z ∈ C.latches, (0 ≤ z.1 ∧ z.1 ≤ 1000000) ∧ (0 ≤ z.2.1 ∧ z.2.1 ≤ 1000000)) := Lib.hid (fun z hl => by have := hr.l z hl; unfold LitOk at this; omega)
  have hcn := hr.nl
  obtain ⟨LA, lc, ec, _, _, hrun⟩ := h.l
  obtain ⟨nL, hn⟩ : ∃ n, C.latches.length = n := ⟨_, rfl⟩
  rw [hn] at ec hcn
  have HN := Lib.hid hn
  have HRUN := Lib.hid hrun
  obtain ⟨Vi, Vl, Vo, Vb, Vc, Vj, Vf, Va, Vs, Vt⟩ := V
  simp only at ec
  subst ec
  have hct : resT C t = C.latches.flatMap (resC m t) := by unfold resT; rw [hm]
  rw [hct, hm]
  clear hW0 hr h hz hrun hn hm hct hi0 hz0 hz1 hz2
  go_enter Try.func71, Try.ntmps71
  go_upto_region 1 with (fail)
  rw [HW0.out]
  go_wp2
  go_loopg [3, 4] nL (fun k vg jv wx => ∃ (q : Nat) (us : List Value), q ≤ nL ∧ k = nL - q ∧ jv = .int .i64 q ∧ DRow wx W0.heap.size vg us ((C.latches.take q).flatMap (resC m t)) ∧ Below W0.heap.size W0 wx)
  case atStart => exact ⟨0, [], Nat.zero_le _, rfl, rfl, drow_none _ _, Below.refl _ _⟩
  case round =>
    obtain ⟨q, us, hq, hgk, rfl, hdr, hbl⟩ := hrel
    subst hgk
    obtain ⟨UA, uc, hue⟩ := own_slice_k hdr.own
    subst hue
    have HDR := Lib.hid hdr
    have HBL := Lib.hid hbl
    obtain ⟨k, hk⟩ : ∃ k, us.length = k := ⟨_, rfl⟩
    have HK := Lib.hid hk
    have hk8 : k ≤ 40000 := by
      have h9 := hdr.ul
      rw [hk] at h9
      have h8 := resC_len m t (C.latches.take q)
      rw [← h9, List.length_take] at h8
      omega
    have HXW : Hid (Blk wr w.heap.size 29 #[.int .i64 m, Vi, .slice LA nL lc, Vo, Vb, Vc, Vj, Vf, Va, Vs, Vt]) := Lib.hid (HX.out.below hbl HX.out.lt)
    obtain ⟨c0, c1, c2, c3, c4, c5, c6, c7, c8, c9, c10⟩ := rbox_of HXW.out
    rw [hk]
    clear hdr hbl hk
    by_cases hlt : q < nL
    · obtain ⟨z, hl⟩ : ∃ z, C.latches[q]? = some z := ⟨_, List.getElem?_eq_getElem (by rw [HN.out]; exact hlt)⟩
      obtain ⟨b, off, e, hb, hcell⟩ := HRUN.out q z hl
      subst e
      obtain ⟨z0, z1, z2⟩ := z
      have HSD : Hid (∀ w3, Below W0.heap.size W0 w3 → Blk w3 w.heap.size 29 #[.int .i64 m, Vi, .slice (some ⟨b, off, none⟩) nL lc, Vo, Vb, Vc, Vj, Vf, Va, Vs, Vt] ∧ w3.cell? ⟨b, off + q * 3, none⟩ = some (.int .i64 z0) ∧ w3.cell? ⟨b, off + q * 3 + 1, none⟩ = some (.int .i64 z1) ∧ w3.cell? ⟨b, off + q * 3 + 2, none⟩ = some (.int .i64 z2)) := Lib.hid (fun w3 hb3 => by
        have hbs := HB.out.trans (hb3.mono HB.out.size)
        have h0 := (hbs.cell (p := ⟨b, off + (q * 3 + 0), none⟩) hb).trans (hcell 0 _ rfl)
        have h1 := (hbs.cell (p := ⟨b, off + (q * 3 + 1), none⟩) hb).trans (hcell 1 _ rfl)
        have h2 := (hbs.cell (p := ⟨b, off + (q * 3 + 2), none⟩) hb).trans (hcell 2 _ rfl)
        simp only [Nat.add_zero, ← Nat.add_assoc] at h0 h1 h2
        exact ⟨HX.out.below hb3 HX.out.lt, h0, h1, h2⟩)
      obtain ⟨⟨l0, l1⟩, l2, l3⟩ := HLI.out _ (List.mem_of_getElem? hl)
      simp only at l0 l1 l2 l3
      have HTK : Hid ((C.latches.take (q + 1)).flatMap (resC m t) = (C.latches.take q).flatMap (resC m t) ++ resC m t (z0, z1, z2)) := Lib.hid (by rw [List.take_add_one, hl, List.flatMap_append]; simp)
      have hk0 : (0 : Int) ≤ (q : Int) := by omega
      have hk1 : (q : Int) < (nL : Int) := by omega
      have htl := HTI.out t z0 h2' h3' l0 l1
      have hwn : IntKind.i64.wrap (-(litT m t z0)) = -(litT m t z0) := i64_in (by omega)
      have HAL : Hid (∀ wx, Calls Try.prog 61 #[CV.val ⟨Vi, .slice (some ⟨b, off, none⟩) nL lc, Vo, Vb, Vc, Vj, Vf, Va, Vs, Vt⟩ m, .int .i64 z0, .int .i64 0] wx fun e w' => e = .returned (.int .i64 (litT m t z0)) ∧ Below wx.heap.size wx w') := Lib.hid (fun wx => by have := HLT.out wx t z0 h2' h3' l0 l1; rw [HT.out] at this ⊢; exact this)
      clear hcell hl hb htl
      go_upto_region 5 with (fail)
      clear c0 c1 c2 c3 c4 c5 c6 c7 c8 c9 c10
      refine wp_region_T (by kernel_rfl) (fun w' => Blk w' w.heap.size 29 #[.int .i64 m, Vi, .slice (some ⟨b, off, none⟩) nL lc, Vo, Vb, Vc, Vj, Vf, Va, Vs, Vt] ∧ w'.cell? ⟨b, off + q * 3, none⟩ = some (.int .i64 z0) ∧ w'.cell? ⟨b, off + q * 3 + 1, none⟩ = some (.int .i64 z1) ∧ w'.cell? ⟨b, off + q * 3 + 2, none⟩ = some (.int .i64 z2)) 9 ?_
      have hHeld := HSD.out _ HBL.out.drew
      refine wpAnyT_take (i := 0) (v := ?v0q18) rfl (by kernel_rfl) (fun _ _ _ h => h) (by rfl) hHeld ?h0q18 ?_
      case h0q18 => (intro w' hSw; (try dsimp only at hSw); obtain ⟨c0, c1, c2, c3, c4, c5, c6, c7, c8, c9, c10⟩ := rbox_of hSw.1; go_simp; try with_reducible rfl)
      (try simp only [Act.put, List.setIfInBounds_toArray, List.set_cons_zero, List.set_cons_succ, List.getElem_toArray, List.getElem_cons_zero])
      refine wpAnyT_take (i := 1) (v := ?v1q19) rfl (by kernel_rfl) (fun _ _ _ h => h) (by rfl) hHeld ?h1q19 ?_
      case h1q19 => (intro w' hSw; (try dsimp only at hSw); obtain ⟨c0, c1, c2, c3, c4, c5, c6, c7, c8, c9, c10⟩ := rbox_of hSw.1; go_simp; try with_reducible rfl)
      (try simp only [Act.put, List.setIfInBounds_toArray, List.set_cons_zero, List.set_cons_succ, List.getElem_toArray, List.getElem_cons_zero, List.getElem_cons_succ])
      refine wpAnyT_take (i := 2) (v := ?v2q20) rfl (by kernel_rfl) (fun _ _ _ h => h) (by rfl) hHeld ?h2q20 ?_
      case h2q20 => (intro w' hSw; (try dsimp only at hSw); obtain ⟨c0, c1, c2, c3, c4, c5, c6, c7, c8, c9, c10⟩ := rbox_of hSw.1; go_simp; try with_reducible rfl)
      (try simp only [Act.put, List.setIfInBounds_toArray, List.set_cons_zero, List.set_cons_succ, List.getElem_toArray, List.getElem_cons_zero, List.getElem_cons_succ])
      refine wpAnyT_take (i := 3) (v := ?v3q21) rfl (by kernel_rfl) (fun _ _ _ h => h) (by rfl) hHeld ?h3q21 ?_
      case h3q21 => (intro w' hSw; (try dsimp only at hSw); go_simp; try with_reducible rfl)
      (try simp only [Act.put, List.setIfInBounds_toArray, List.set_cons_zero, List.set_cons_succ, List.getElem_toArray, List.getElem_cons_zero, List.getElem_cons_succ])
      refine wpAnyT_take (i := 4) (v := ?v4q22) rfl (by kernel_rfl) (fun _ _ _ h => h) (by rfl) hHeld ?h4q22 ?_
      case h4q22 => (intro w' hSw; (try dsimp only at hSw); go_simp; try with_reducible rfl)
      (try simp only [Act.put, List.setIfInBounds_toArray, List.set_cons_zero, List.set_cons_succ, List.getElem_toArray, List.getElem_cons_zero, List.getElem_cons_succ])
      refine wpAnyT_take (i := 5) (v := ?v5q23) rfl (by kernel_rfl) (fun _ _ _ h => h) (by rfl) hHeld ?h5q23 ?_
      case h5q23 => (intro w' hSw; (try dsimp only at hSw); go_simp; try with_reducible rfl)
      (try simp only [Act.put, List.setIfInBounds_toArray, List.set_cons_zero, List.set_cons_succ, List.getElem_toArray, List.getElem_cons_zero, List.getElem_cons_succ])
      refine wpAnyT_take (i := 6) (v := ?v6q24) rfl (by kernel_rfl) (fun _ _ _ h => h) (by rfl) hHeld ?h6q24 ?_
      case h6q24 => (intro w' hSw; (try dsimp only at hSw); obtain ⟨c0, c1, c2, c3, c4, c5, c6, c7, c8, c9, c10⟩ := rbox_of hSw.1; have e0 := hSw.2.1; have e1 := hSw.2.2.1; have e2 := hSw.2.2.2; go_simp; try with_reducible rfl)
      (try simp only [Act.put, List.setIfInBounds_toArray, List.set_cons_zero, List.set_cons_succ, List.getElem_toArray, List.getElem_cons_zero, List.getElem_cons_succ])
      clear hHeld
      refine wpAnyT_one (i := 7) rfl (by kernel_rfl) (fun K hK => ?_)
      go_simp
      go_at_call 61
      refine (HAL.out _).mono ?_
      rintro e w1 ⟨rfl, hb1⟩
      have HB1 : Hid (Below wr.heap.size wr w1) := Lib.hid (bt (Below.refl wr.heap.size wr).drew (Nat.le_refl _) hb1)
      clear hb1
      refine hK.out _ _ (fun _ => HSD.out _ (HBL.out.trans (HB1.out.mono HBL.out.size))) ?_
      clear hK K
      (try simp only [Act.put, List.setIfInBounds_toArray, List.set_cons_zero, List.set_cons_succ, List.getElem_toArray, List.getElem_cons_zero, List.getElem_cons_succ])
      refine wpAnyT_one (i := 8) rfl (by kernel_rfl) (fun K hK => ?_)
      go_simp
      refine hK.out _ _ (fun _ => HSD.out _ (HBL.out.trans (HB1.out.mono HBL.out.size))) ?_
      clear hK K
      (try simp only [Act.put, List.setIfInBounds_toArray, List.set_cons_zero, List.set_cons_succ, List.getElem_toArray, List.getElem_cons_zero, List.getElem_cons_succ])
      refine wpAnyT_done (by kernel_rfl) ?_
      have hsd := HSD.out _ (HBL.out.trans (HB1.out.mono HBL.out.size))
      obtain ⟨c0, c1, c2, c3, c4, c5, c6, c7, c8, c9, c10⟩ := rbox_of hsd.1
      have e0 := hsd.2.1
      have e1 := hsd.2.2.1
      have e2 := hsd.2.2.2
      clear hsd
      rcases (show z2 = 0 ∨ z2 = 1 ∨ (z2 ≠ 0 ∧ z2 ≠ 1) by omega) with hzz | hzz | hzz
      · have HFE : Hid (resC m t (z0, z1, z2) = [[-(litT m t z0)]]) := Lib.hid (by unfold resC; simp [hzz])
        rw [HFE.out] at HTK
        obtain ⟨y, hy⟩ : ∃ y, -(litT m t z0) = y := ⟨_, rfl⟩
        rw [hy] at HTK; replace hwn := hwn.trans hy
        subst hzz
        clear hy HFE
        go_wp2_with (at_builtin; refine wpList_append_any _ rfl (.tmp 28) (.tmp 32) _ rfl W0.heap.size 81 i0 _ 1 24 Try.underlying32 HI0.out.1 HI0.out.2.1 HI0.out.2.2.1 HI0.out.2.2.2 rfl (by omega) (.slice UA k uc) k us rfl (by have := own_below HDR.out.own (HB1.out.alloc HB1.out.size (.cells #[.int .i64 y] 3)); have := own_below this ((Below.refl _ _).alloc (Nat.le_refl _) (.cells #[.slice (some ⟨w1.heap.size, 0, none⟩) 1 1] 81)); rw [HK.out] at this; exact this) (w1.heap.size + 1 + 1) (some ⟨w1.heap.size + 1, 0, none⟩) 1 1 [.slice (some ⟨w1.heap.size, 0, none⟩) 1 1] rfl (by have := reads_one (w1.alloc (.cells #[.int .i64 y] 3)) (.slice (some ⟨w1.heap.size, 0, none⟩) 1 1) 81; simpa using this) (by simp [Value.oneCell']) (by simp only [maxLen]; omega) (by omega) (by have h1 := HB1.out.size; have h2 := HBL.out.size; simp; omega) ?_; intro v2 w2 hown2 hg2 hat2; obtain ⟨A2, c2', hf2⟩ := own_slice_k hown2; subst hf2; have HO2 := Lib.hid hown2; have HG2 := Lib.hid hg2; clear hown2 hg2 hat2; have hb9 : Below W0.heap.size W0 w2 := (HBL.out.trans (((HB1.out.alloc HB1.out.size (.cells #[.int .i64 y] 3)).alloc (by have := HB1.out.size; simp; omega) (.cells #[.slice (some ⟨w1.heap.size, 0, none⟩) 1 1] 81)).mono HBL.out.size)).grown HG2.out (by have h1 := HB1.out.size; have h2 := HBL.out.size; simp; omega) (fun j hj => (HDR.out.own.lt j (by rw [HK.out]; exact hj)).1); have hsd := HSD.out _ hb9; clear c0 c1 c2 c3 c4 c5 c6 c7 c8 c9 c10 e0 e1 e2; obtain ⟨c0, c1, c2, c3, c4, c5, c6, c7, c8, c9, c10⟩ := rbox_of hsd.1; have e0 := hsd.2.1; have e1 := hsd.2.2.1; have e2 := hsd.2.2.2; clear hsd hb9)
        go_roundg (nL - (q + 1))
        case measure => omega
        case rel =>
          have hb2 : Below wr.heap.size wr ((w1.alloc (.cells #[.int .i64 y] 3)).alloc (.cells #[.slice (some ⟨w1.heap.size, 0, none⟩) 1 1] 81)) := (HB1.out.alloc HB1.out.size _).alloc (by have := HB1.out.size; simp; omega) _
          refine ⟨q + 1, us ++ [.slice (some ⟨w1.heap.size, 0, none⟩) 1 1], by omega, rfl, by go_num, ?_, (HBL.out.trans (hb2.mono HBL.out.size)).grown HG2.out (by have h1 := HB1.out.size; have h2 := HBL.out.size; simp; omega) (fun j hj => (HDR.out.own.lt j (by rw [HK.out]; exact hj)).1)⟩
          rw [HTK.out]
          exact HDR.out.app hb2 HBL.out.size (us2 := [.slice (some ⟨w1.heap.size, 0, none⟩) 1 1]) (F2 := [[y]]) rfl (oneR (x := [y]) (own_le (own_below (own_oneB w1 (.int .i64 y)) ((Below.refl _ _).alloc (Nat.le_refl _) _)) HB1.out.size)) (by rw [HK.out]; exact HG2.out) (by rw [HK.out]; exact HO2.out)
      · have HFE : Hid (resC m t (z0, z1, z2) = [[litT m t z0]]) := Lib.hid (by unfold resC; simp [hzz])
        rw [HFE.out] at HTK
        obtain ⟨y, hy⟩ : ∃ y, litT m t z0 = y := ⟨_, rfl⟩
        clear hwn; rw [hy] at HTK ⊢
        subst hzz
        clear hy HFE
        go_wp2_with (at_builtin; refine wpList_append_any _ rfl (.tmp 41) (.tmp 44) _ rfl W0.heap.size 81 i0 _ 1 24 Try.underlying32 HI0.out.1 HI0.out.2.1 HI0.out.2.2.1 HI0.out.2.2.2 rfl (by omega) (.slice UA k uc) k us rfl (by have := own_below HDR.out.own (HB1.out.alloc HB1.out.size (.cells #[.int .i64 y] 3)); have := own_below this ((Below.refl _ _).alloc (Nat.le_refl _) (.cells #[.slice (some ⟨w1.heap.size, 0, none⟩) 1 1] 81)); rw [HK.out] at this; exact this) (w1.heap.size + 1 + 1) (some ⟨w1.heap.size + 1, 0, none⟩) 1 1 [.slice (some ⟨w1.heap.size, 0, none⟩) 1 1] rfl (by have := reads_one (w1.alloc (.cells #[.int .i64 y] 3)) (.slice (some ⟨w1.heap.size, 0, none⟩) 1 1) 81; simpa using this) (by simp [Value.oneCell']) (by simp only [maxLen]; omega) (by omega) (by have h1 := HB1.out.size; have h2 := HBL.out.size; simp; omega) ?_; intro v2 w2 hown2 hg2 hat2; obtain ⟨A2, c2', hf2⟩ := own_slice_k hown2; subst hf2; have HO2 := Lib.hid hown2; have HG2 := Lib.hid hg2; clear hown2 hg2 hat2; have hb9 : Below W0.heap.size W0 w2 := (HBL.out.trans (((HB1.out.alloc HB1.out.size (.cells #[.int .i64 y] 3)).alloc (by have := HB1.out.size; simp; omega) (.cells #[.slice (some ⟨w1.heap.size, 0, none⟩) 1 1] 81)).mono HBL.out.size)).grown HG2.out (by have h1 := HB1.out.size; have h2 := HBL.out.size; simp; omega) (fun j hj => (HDR.out.own.lt j (by rw [HK.out]; exact hj)).1); have hsd := HSD.out _ hb9; clear c0 c1 c2 c3 c4 c5 c6 c7 c8 c9 c10 e0 e1 e2; obtain ⟨c0, c1, c2, c3, c4, c5, c6, c7, c8, c9, c10⟩ := rbox_of hsd.1; have e0 := hsd.2.1; have e1 := hsd.2.2.1; have e2 := hsd.2.2.2; clear hsd hb9)
        go_roundg (nL - (q + 1))
        case measure => omega
        case rel =>
          have hb2 : Below wr.heap.size wr ((w1.alloc (.cells #[.int .i64 y] 3)).alloc (.cells #[.slice (some ⟨w1.heap.size, 0, none⟩) 1 1] 81)) := (HB1.out.alloc HB1.out.size _).alloc (by have := HB1.out.size; simp; omega) _
          refine ⟨q + 1, us ++ [.slice (some ⟨w1.heap.size, 0, none⟩) 1 1], by omega, rfl, by go_num, ?_, (HBL.out.trans (hb2.mono HBL.out.size)).grown HG2.out (by have h1 := HB1.out.size; have h2 := HBL.out.size; simp; omega) (fun j hj => (HDR.out.own.lt j (by rw [HK.out]; exact hj)).1)⟩
          rw [HTK.out]
          exact HDR.out.app hb2 HBL.out.size (us2 := [.slice (some ⟨w1.heap.size, 0, none⟩) 1 1]) (F2 := [[y]]) rfl (oneR (x := [y]) (own_le (own_below (own_oneB w1 (.int .i64 y)) ((Below.refl _ _).alloc (Nat.le_refl _) _)) HB1.out.size)) (by rw [HK.out]; exact HG2.out) (by rw [HK.out]; exact HO2.out)
      · have HFE : Hid (resC m t (z0, z1, z2) = []) := Lib.hid (by unfold resC; simp [hzz.1, hzz.2])
        rw [HFE.out, List.append_nil] at HTK
        obtain ⟨hzz0, hzz1⟩ := hzz
        clear HFE
        go_wp2
        go_roundg (nL - (q + 1))
        case measure => omega
        case rel => exact ⟨q + 1, us, by omega, rfl, by go_num, by rw [HTK.out]; have := HDR.out.below HB1.out; rw [HK.out] at this; exact this, HBL.out.trans (HB1.out.mono HBL.out.size)⟩
    · have hqe : nL = q := by omega
      subst hqe
      have HE : Hid ((C.latches.take nL).flatMap (resC m t) = C.latches.flatMap (resC m t)) := Lib.hid (by rw [List.take_of_length_le (by rw [HN.out]; exact Nat.le_refl _)])
      go_wp2
      go_ret
      refine ⟨HB.out.trans (HBL.out.mono HB.out.size), _, us, rfl, ?_⟩
      have := HDR.out.base HB.out.size
      rw [HE.out, HK.out] at this
      exact this
end Go.Proofs.Ytdodhbfplglbkaa

namespace Go.Proofs.Ytdodhbfplglbkaa
open Go.RowKit
theorem fitS_big {m n : Int} (h1 : 1 ≤ n) (h2 : n ≤ 512) (h : ¬ 1 + n * m ≤ 262144) : fitS m n = 6 := by unfold fitS; rw [if_neg (by omega), if_pos (by omega)]
theorem fitS_fine {m n : Int} (h1 : 1 ≤ n) (h2 : n ≤ 512) (h : 1 + n * m ≤ 262144) : fitS m n = 0 := by unfold fitS; rw [if_neg (by omega), if_neg (by omega)]

set_option maxHeartbeats 4000000 in
set_option maxRecDepth 100000 in
theorem rfVars_any (w : World) (V : CV) (C : Circ) (n : Int) (h : C.In w V) (ok : C.Ok) (htn : ∀ s ∈ C.comments, s.size ≤ maxLen) :
    Calls Try.prog 25 #[V.val C.max, .int .i64 n] w fun e w' => e = .returned (.tuple #[.int .i64 (varsFT C n), .int .i64 (fitN C n)]) ∧ Below w.heap.size w w' := by
  obtain ⟨W0, hW0⟩ : ∃ W0, w.alloc (.cells (V.cells C.max) 29) = W0 := ⟨_, rfl⟩
  have HB : Hid (Below w.heap.size w W0) := Lib.hid (by rw [← hW0]; exact (Below.refl _ _).alloc (Nat.le_refl _) _)
  have HX : Hid (Blk W0 w.heap.size 29 (V.cells C.max)) := Lib.hid (by rw [← hW0]; exact Blk.new w _ _)
  have HBX : Hid (W0.heap[w.heap.size]? = some (.cells (V.cells C.max) 29 (0, 0))) := Lib.hid HX.out
  have HIN := Lib.hid (h.below HB.out)
  have HCK := Lib.hid (rCheck_any W0 V C HIN.out ok htn)
  have c0 := HX.out.cell 0
  simp only [CV.cells, List.getElem?_toArray, List.getElem?_cons_zero] at c0
  have HW0 := Lib.hid hW0
  obtain ⟨a, r, hrr⟩ : ∃ a r, checkR C = (a, r) := ⟨_, _, rfl⟩
  have HRR : Hid ((checkR C).2 = r) := Lib.hid (by rw [hrr])
  rw [hrr] at HCK
  clear hW0 hrr h ok htn
  have h0c := Classical.em (r = 0)
  rcases h0c with h0 | h0
  · subst h0
    have hr := right_of HRR.out
    have HZ := HRR
    obtain ⟨m, hm⟩ : ∃ m, C.max = m := ⟨_, rfl⟩
    have hm0 : 0 ≤ m := by rw [← hm]; exact hr.m0
    have hm1 : m ≤ 16384 := by rw [← hm]; exact hr.m1
    have HM := Lib.hid hm
    rw [hm] at HX HBX HCK HW0 c0 ⊢
    clear hr hm
    clear HRR
    by_cases k1 : n < 1
    · have e1 : fitS m n = 1 := if_pos (.inl k1)
      have e2 : fitN C n = 1 := by unfold fitN; rw [HZ.out, if_neg (by simp), HM.out]; exact e1
      have e3 : varsFT C n = 0 := if_neg (by rw [e2]; decide)
      rw [e2, e3]
      clear e1 e2 e3
      go_enter Try.func25, Try.ntmps25
      go_upto_region 1 with (fail)
      rw [HW0.out]
      go_wp2_with (first
        | (refine wpList_load_row rfl 29 (.tmp 2) rfl w.heap.size rfl 29 (V.cells m) (0, 0) _ HBX.out Try.underlying29 rfl (by kernel_rfl) ?_)
        | (go_at_call 46; refine HCK.out.mono ?_; rintro e w1 ⟨rfl, hb1⟩; have HB1 := Lib.hid hb1; clear hb1; have HBX1 : Hid (w1.heap[w.heap.size]? = some (.cells (V.cells m) 29 (0, 0))) := Lib.hid (HX.out.below HB1.out HX.out.lt); clear HBX; have HBX := HBX1; clear HBX1; clear c0; have c0 := (HX.out.below HB1.out HX.out.lt).cell 0; simp only [CV.cells, List.getElem?_toArray, List.getElem?_cons_zero] at c0))
      go_ret2
      exact ⟨rfl, bt HB.out (Nat.le_refl _) HB1.out⟩
    · skip
      by_cases k2 : 512 < n
      · have e1 : fitS m n = 1 := if_pos (.inr k2)
        have e2 : fitN C n = 1 := by unfold fitN; rw [HZ.out, if_neg (by simp), HM.out]; exact e1
        have e3 : varsFT C n = 0 := if_neg (by rw [e2]; decide)
        rw [e2, e3]
        clear e1 e2 e3
        go_enter Try.func25, Try.ntmps25
        go_upto_region 1 with (fail)
        rw [HW0.out]
        go_wp2_with (first
          | (refine wpList_load_row rfl 29 (.tmp 2) rfl w.heap.size rfl 29 (V.cells m) (0, 0) _ HBX.out Try.underlying29 rfl (by kernel_rfl) ?_)
          | (go_at_call 46; refine HCK.out.mono ?_; rintro e w1 ⟨rfl, hb1⟩; have HB1 := Lib.hid hb1; clear hb1; have HBX1 : Hid (w1.heap[w.heap.size]? = some (.cells (V.cells m) 29 (0, 0))) := Lib.hid (HX.out.below HB1.out HX.out.lt); clear HBX; have HBX := HBX1; clear HBX1; clear c0; have c0 := (HX.out.below HB1.out HX.out.lt).cell 0; simp only [CV.cells, List.getElem?_toArray, List.getElem?_cons_zero] at c0))
        go_ret2
        exact ⟨rfl, bt HB.out (Nat.le_refl _) HB1.out⟩
      · skip
        have HFI := Lib.hid (fun wx => rfits_any wx V m (n) hm0 hm1 (by omega) (by omega))
        by_cases hft : 1 + (n) * m ≤ 262144
        · rw [decide_eq_true hft] at HFI
          have e1 : fitS m n = 0 := fitS_fine (by omega) (by omega) hft
          have e2 : fitN C n = 0 := by unfold fitN; rw [HZ.out, if_neg (by simp), HM.out]; exact e1
          have e3 : varsFT C n = 1 + n * m := by unfold varsFT; rw [if_pos e2, HM.out]
          rw [e2, e3]
          have g := mul_in (t := n) (by omega) (by omega) hm0 hm1
          have hw1 : IntKind.i64.wrap (n * m) = n * m := i64_in (by omega)
          have hw2 : IntKind.i64.wrap (1 + n * m) = 1 + n * m := i64_in (by omega)
          clear e1 e2 e3 g
          go_enter Try.func25, Try.ntmps25
          go_upto_region 1 with (fail)
          rw [HW0.out]
          go_wp2_with (first
            | (refine wpList_load_row rfl 29 (.tmp 2) rfl w.heap.size rfl 29 (V.cells m) (0, 0) _ HBX.out Try.underlying29 rfl (by kernel_rfl) ?_)
            | (go_at_call 46; refine HCK.out.mono ?_; rintro e w1 ⟨rfl, hb1⟩; have HB1 := Lib.hid hb1; clear hb1; have HBX1 : Hid (w1.heap[w.heap.size]? = some (.cells (V.cells m) 29 (0, 0))) := Lib.hid (HX.out.below HB1.out HX.out.lt); clear HBX; have HBX := HBX1; clear HBX1; clear c0; have c0 := (HX.out.below HB1.out HX.out.lt).cell 0; simp only [CV.cells, List.getElem?_toArray, List.getElem?_cons_zero] at c0)
            | (go_at_call 60; refine (HFI.out _).mono ?_; rintro e w2 ⟨rfl, hb2⟩; have HB2 := Lib.hid (bt HB1.out (Nat.le_refl _) hb2); clear hb2; have HBX1 : Hid (w2.heap[w.heap.size]? = some (.cells (V.cells m) 29 (0, 0))) := Lib.hid (HX.out.below HB2.out HX.out.lt); clear HBX; have HBX := HBX1; clear HBX1; clear c0; have c0 := (HX.out.below HB2.out HX.out.lt).cell 0; simp only [CV.cells, List.getElem?_toArray, List.getElem?_cons_zero] at c0))
          go_ret2
          exact ⟨rfl, bt HB.out (Nat.le_refl _) HB2.out⟩
        · rw [decide_eq_false hft] at HFI
          have e1 : fitS m n = 6 := fitS_big (by omega) (by omega) hft
          have e2 : fitN C n = 6 := by unfold fitN; rw [HZ.out, if_neg (by simp), HM.out]; exact e1
          have e3 : varsFT C n = 0 := if_neg (by rw [e2]; decide)
          rw [e2, e3]
          clear e1 e2 e3
          go_enter Try.func25, Try.ntmps25
          go_upto_region 1 with (fail)
          rw [HW0.out]
          go_wp2_with (first
            | (refine wpList_load_row rfl 29 (.tmp 2) rfl w.heap.size rfl 29 (V.cells m) (0, 0) _ HBX.out Try.underlying29 rfl (by kernel_rfl) ?_)
            | (go_at_call 46; refine HCK.out.mono ?_; rintro e w1 ⟨rfl, hb1⟩; have HB1 := Lib.hid hb1; clear hb1; have HBX1 : Hid (w1.heap[w.heap.size]? = some (.cells (V.cells m) 29 (0, 0))) := Lib.hid (HX.out.below HB1.out HX.out.lt); clear HBX; have HBX := HBX1; clear HBX1; clear c0; have c0 := (HX.out.below HB1.out HX.out.lt).cell 0; simp only [CV.cells, List.getElem?_toArray, List.getElem?_cons_zero] at c0)
            | (go_at_call 60; refine (HFI.out _).mono ?_; rintro e w2 ⟨rfl, hb2⟩; have HB2 := Lib.hid (bt HB1.out (Nat.le_refl _) hb2); clear hb2; have HBX1 : Hid (w2.heap[w.heap.size]? = some (.cells (V.cells m) 29 (0, 0))) := Lib.hid (HX.out.below HB2.out HX.out.lt); clear HBX; have HBX := HBX1; clear HBX1; clear c0; have c0 := (HX.out.below HB2.out HX.out.lt).cell 0; simp only [CV.cells, List.getElem?_toArray, List.getElem?_cons_zero] at c0))
          go_ret2
          exact ⟨rfl, bt HB.out (Nat.le_refl _) HB2.out⟩
  · have hq : (r != 0) = true := by simpa using h0
    obtain ⟨m, hm⟩ : ∃ m, C.max = m := ⟨_, rfl⟩
    have e2 : fitN C n = r := by unfold fitN; rw [HRR.out, if_pos h0]
    have e3 : varsFT C n = 0 := if_neg (by rw [e2]; exact h0)
    rw [e2, e3]
    clear e2 e3
    rw [hm] at HX HBX HCK HW0 c0 ⊢
    clear hm h0
    go_enter Try.func25, Try.ntmps25
    go_upto_region 1 with (fail)
    rw [HW0.out]
    go_wp2_with (first
      | (refine wpList_load_row rfl 29 (.tmp 2) rfl w.heap.size rfl 29 (V.cells m) (0, 0) _ HBX.out Try.underlying29 rfl (by kernel_rfl) ?_)
      | (go_at_call 46; refine HCK.out.mono ?_; rintro e w1 ⟨rfl, hb1⟩; have HB1 := Lib.hid hb1; clear hb1; have HBX1 : Hid (w1.heap[w.heap.size]? = some (.cells (V.cells m) 29 (0, 0))) := Lib.hid (HX.out.below HB1.out HX.out.lt); clear HBX; have HBX := HBX1; clear HBX1; clear c0; have c0 := (HX.out.below HB1.out HX.out.lt).cell 0; simp only [CV.cells, List.getElem?_toArray, List.getElem?_cons_zero] at c0))
    go_ret2
    exact ⟨rfl, bt HB.out (Nat.le_refl _) HB1.out⟩

end Go.Proofs.Ytdodhbfplglbkaa

namespace Go.Proofs.Ytdodhbfplglbkaa
open Go.RowKit

theorem sl_formP {E : Type} {k : Nat} {enc : E → List Value} {w : World} {v : Value} {zs : List E} (h : RowE k enc w v zs) : ∃ A n c, v = .slice A n c := by
  obtain ⟨A, c, e, _⟩ := h
  exact ⟨A, _, c, e⟩
theorem sl_formLP {w : World} {v : Value} {zss : List (List Int)} (h : Lists w v zss) : ∃ A n c, v = .slice A n c := by
  obtain ⟨us, hr, _⟩ := h
  exact sl_formP hr
end Go.Proofs.Ytdodhbfplglbkaa
