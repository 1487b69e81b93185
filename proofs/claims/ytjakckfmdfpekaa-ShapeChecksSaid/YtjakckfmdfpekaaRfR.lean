/- The document's own look at whether a gate comes round. -/
import Derived.Test.YtjakckfmdfpekaaRfT
import Derived.BigRegion
import Derived.Deep.RegionHeld3
namespace Go.Proofs.Ytjakckfmdfpekaa
open Go.RowKit

/-- The search from a gate: what is listed, what of it has been looked at. -/
structure Srch (uses : List (Int × Int)) (n : Nat) (at_ : Int) (R : List Int) (i : Nat) : Prop where
  nd : (at_ :: R).Nodup
  inr : ∀ x ∈ at_ :: R, InR n x
  path : ∀ x ∈ at_ :: R, Path uses at_ x
  done : ∀ (j : Nat) (x : Int), j < i → (at_ :: R)[j]? = some x → ∀ y, Edge uses x y → y ∈ at_ :: R ∧ y ≠ at_
  le : i ≤ (at_ :: R).length
section
variable {uses : List (Int × Int)} {n i : Nat} {at_ : Int} {R : List Int}
theorem Srch.len (h : Srch uses n at_ R i) : (at_ :: R).length ≤ n := by
  have := nodup_sub (m := (List.range n).map (fun (k : Nat) => (k : Int))) h.nd (fun x hx => by
    have := h.inr x hx
    exact List.mem_map.2 ⟨x.toNat, List.mem_range.2 (by omega), by omega⟩)
  simpa using this
theorem Srch.start (ha : InR n at_) : Srch uses n at_ [] 0 :=
  ⟨by simp, fun x hx => by simp at hx; exact hx ▸ ha, fun x hx => by simp at hx; exact hx ▸ .refl _, fun j x hj => by omega, Nat.zero_le _⟩
theorem Srch.add (h : Srch uses n at_ R i) {y : Int} (hy : InR n y) (hn : y ∉ R) (hne : y ≠ at_) (hp : Path uses at_ y) : Srch uses n at_ (R ++ [y]) i := by
  have e : at_ :: (R ++ [y]) = (at_ :: R) ++ [y] := rfl
  refine ⟨?_, fun x hx => ?_, fun x hx => ?_, fun j x hj hx z hz => ?_, by have := h.le; simp at this ⊢; omega⟩
  · rw [e, List.nodup_append]
    refine ⟨h.nd, by simp, fun a ha b hb => ?_⟩
    simp at hb
    subst hb
    rcases List.mem_cons.1 ha with rfl | ha
    · exact hne.symm
    · exact fun e => hn (e ▸ ha)
  · rw [e] at hx
    rcases List.mem_append.1 hx with hx | hx
    · exact h.inr x hx
    · simp at hx; exact hx ▸ hy
  · rw [e] at hx
    rcases List.mem_append.1 hx with hx | hx
    · exact h.path x hx
    · simp at hx; exact hx ▸ hp
  · have hle := h.le
    rw [e, List.getElem?_append_left (by omega)] at hx
    have := h.done j x hj hx z hz
    exact ⟨by rw [e]; exact List.mem_append_left _ this.1, this.2⟩
theorem Srch.next (h : Srch uses n at_ R i) {x : Int} (hx : (at_ :: R)[i]? = some x) (hc : ∀ y, Edge uses x y → y ∈ at_ :: R ∧ y ≠ at_) : Srch uses n at_ R (i + 1) := by
  refine ⟨h.nd, h.inr, h.path, fun j z hj hz => ?_, (List.getElem?_eq_some_iff.1 hx).1⟩
  by_cases e : j = i
  · subst e
    rw [hx] at hz
    injection hz with hz
    subst hz
    exact hc
  · exact h.done j z (by omega) hz
theorem Srch.no (h : Srch uses n at_ R i) (hi : i = (at_ :: R).length) : ¬ Cyc uses at_ :=
  round_no (L := at_ :: R) (by simp) fun x hx y hE => by
    obtain ⟨j, hj⟩ := List.getElem?_of_mem hx
    exact h.done j x (by have := (List.getElem?_eq_some_iff.1 hj).1; omega) hj y hE
theorem Srch.yes (h : Srch uses n at_ R i) {x : Int} (hx : (at_ :: R)[i]? = some x) (hE : Edge uses x at_) : Cyc uses at_ := round_yes (h.path x (List.mem_of_getElem? hx)) hE
end
/-- What memory holds while a gate is looked at. -/
structure RndS (w0 w : World) (b gd : Nat) (cs : Array Value) (n : Nat) (v : Value) (at_ : Int) (R : List Int) : Prop where
  below : Below w0.heap.size w0 w
  box : Blk w b 29 cs
  done : Tab w gd (dnT n R)
  row : w.ownsRow (gd + 1) 3 1 v (at_ :: R).length ((at_ :: R).map (Value.int .i64))
section
variable {w0 w : World} {b gd : Nat} {cs : Array Value} {n : Nat} {v : Value} {at_ : Int} {R : List Int}
theorem RndS.drewN (h : RndS w0 w b gd cs n v at_ R) (k : Nat) : RndS w0 (w.drewN k) b gd cs n v at_ R := ⟨below_drewN h.below k, h.box.drewN k, Blk.drewN h.done k, own_of_block h.row fun _ _ => rfl⟩
theorem RndS.drew (h : RndS w0 w b gd cs n v at_ R) : RndS w0 w.drew b gd cs n v at_ R := h.drewN 1
theorem RndS.lt (h : RndS w0 w b gd cs n v at_ R) : gd < w.heap.size := Blk.lt h.done
theorem RndS.alloc (h : RndS w0 w b gd cs n v at_ R) (o : Obj) : RndS w0 (w.alloc o) b gd cs n v at_ R := ⟨h.below.alloc h.below.size o, h.box.alloc o, Blk.alloc h.done o, h.row.alloc o⟩
theorem RndS.add (h : RndS w0 w b gd cs n v at_ R) (h1 : w0.heap.size ≤ gd) (hb : b < gd) {i : Nat} (hi : i < n) {o : Obj} {v' : Value} {w' : World}
    (hgr : ((w.setCell ⟨gd, i, none⟩ (.bool true)).alloc o).grownBy w' v.ownBlock) (ho : w'.ownsRow (gd + 1) 3 1 v' ((at_ :: R).length + 1) ((at_ :: R).map (Value.int .i64) ++ [Value.int .i64 (i : Int)])) :
    RndS w0 w' b gd cs n v' at_ (R ++ [(i : Int)]) := by
  have hlt := h.lt
  have hrow : ∀ k, k ≤ gd → some k ≠ v.ownBlock := fun k hk e => by
    have := (h.row.lt k e.symm).1
    omega
  have hsz : ((w.setCell ⟨gd, i, none⟩ (.bool true)).alloc o).heap.size = w.heap.size + 1 := by simp [World.setCell]
  have hbl : ∀ k, k ≤ gd → w'.heap[k]? = (w.setCell ⟨gd, i, none⟩ (.bool true)).heap[k]? := fun k hk =>
    (hgr.block k (by omega) (hrow k hk)).trans (Below.heap_alloc _ o k (by simp [World.setCell]; omega))
  have hfar : ∀ k, k < gd → w'.heap[k]? = w.heap[k]? := fun k hk => (hbl k (by omega)).trans (Below.heap_setCell _ _ _ _ (by simp; omega))
  refine ⟨h.below.trans ⟨hgr.os, hgr.tape, hgr.output, by have := hgr.size; omega, fun k hk => hfar k (by omega)⟩, (hfar _ hb).trans h.box, ?_, by simpa using ho⟩
  have := (Tab.set_ h.done i true)
  rw [dnT_snoc hi] at this
  exact (hbl gd (Nat.le_refl _)).trans this
theorem blk_keep {g : Nat} {t : TypeId} {ar : Array Value} (hg : Blk w g t ar) (h : RndS w0 w b gd cs n v at_ R) (ht : 3 ≠ t) (hne : g ≠ gd) {i : Nat} {o : Obj} {w' : World}
    (hgr : ((w.setCell ⟨gd, i, none⟩ (.bool true)).alloc o).grownBy w' v.ownBlock) : Blk w' g t ar := by
  have h1 : Blk ((w.setCell ⟨gd, i, none⟩ (.bool true)).alloc o) g t ar := (Blk.far hg hne _).alloc o
  exact h1.grown hgr (fun e => own_blk_ne h.row hg ht e.symm)
end
theorem index_two (a b : Int) (w : World) : (Instr.build 50 #[(0, .int .i64 a), (1, .int .i64 b)]).run Try.prog w = .ok (.agg #[.int .i64 a, .int .i64 b]) w := run_build w _ _ _ (by kernel_rfl)

set_option maxHeartbeats 20000000 in
set_option maxRecDepth 100000 in
theorem rround_any (w : World) (V : CV) (C : Circ) (gg : Nat) (a : Nat) (h : C.In w V) (hm0 : 0 ≤ C.max) (hm1 : C.max ≤ 16384) (hna : C.ands.length ≤ 16384) (hfit : ∀ z ∈ C.ands, FitT C.max z) (hgg : Nums w gg (gateOf C)) (ha : a < C.ands.length) :
    Calls Try.prog 42 #[V.val C.max, .slice (some ⟨gg, 0, none⟩) (C.max.toNat + 1) (C.max.toNat + 1), .int .i64 (a : Int)] w fun e w' => ∃ bl, e = .returned (.bool bl) ∧ (bl = true ↔ Cyc (usesC C) (a : Int)) ∧ Below w.heap.size w w' := by
  have HU := Lib.hid (usesC_ok hm0 hfit)
  have hG := gateOf_lenR C
  obtain ⟨G, hGe⟩ : ∃ G, gateOf C = G := ⟨_, rfl⟩
  have HGE := Lib.hid hGe
  rw [hGe] at hG hgg
  obtain ⟨m, hmm⟩ : ∃ m : Nat, C.max = (m : Int) := ⟨C.max.toNat, by omega⟩
  rw [hmm] at hG hfit ⊢
  have hmt : ((m : Int)).toNat = m := by omega
  rw [hmt] at hG ⊢
  have HFIT := Lib.hid hfit
  have HG := Lib.hid hG
  have HGG := Lib.hid hgg
  obtain ⟨AA, cA, eA, _, _, hA⟩ := h.a
  have HA := Lib.hid hA
  obtain ⟨Vi, Vl, Vo, Vb, Vc, Vj, Vf, Va, Vs, Vt⟩ := V
  simp only at eA
  subst eA
  have hUL := usesC_len C
  generalize hn : C.ands.length = n at *
  have hmk := make_boolsR n (by omega)
  have HN := Lib.hid hn
  have HUL := Lib.hid hUL
  have hm2 : m ≤ 16384 := by omega
  have hgl := Blk.lt hgg
  have HS0 : Hid (RndS w (((w.alloc (.cells #[.int .i64 m, Vi, Vl, Vo, Vb, Vc, Vj, Vf, .slice AA n cA, Vs, Vt] 29)).alloc (.cells (madeCells #[Value.bool false] n) 4)).alloc (.cells #[.int .i64 (a : Int)] 3)) w.heap.size (w.heap.size + 1) #[.int .i64 m, Vi, Vl, Vo, Vb, Vc, Vj, Vf, .slice AA n cA, Vs, Vt] n (.slice (some ⟨w.heap.size + 1 + 1, 0, none⟩) 1 1) (a : Int) []) := Lib.hid (by
    refine ⟨(((Below.refl w.heap.size w).alloc (Nat.le_refl _) _).alloc (by simp) _).alloc (by simp; omega) _, ((Blk.new w _ _).alloc _).alloc _, ?_, ?_⟩
    · rw [dnT_nil]
      unfold Tab
      rw [made_falses]
      have := (Blk.new (w.alloc (.cells #[.int .i64 m, Vi, Vl, Vo, Vb, Vc, Vj, Vf, .slice AA n cA, Vs, Vt] 29)) 4 ((List.replicate n false).map Value.bool).toArray).alloc (.cells #[.int .i64 (a : Int)] 3)
      simpa using this
    · have := World.ownsRow_lit (base := w.heap.size + 1 + 1) (e := 3) (size := 1) ((w.alloc (.cells #[.int .i64 m, Vi, Vl, Vo, Vb, Vc, Vj, Vf, .slice AA n cA, Vs, Vt] 29)).alloc (.cells (madeCells #[Value.bool false] n) 4)) #[.int .i64 (a : Int)] 1 (by simp) (by simp [maxLen]) rfl
      simpa using this)
  have HSR0 : Hid (Srch (usesC C) n (a : Int) [] 0) := Lib.hid (Srch.start ⟨by omega, by omega⟩)
  clear hn hUL h hA hfit hG hGe hmm hmt hm0 hm1 hgg
  go_enter Try.func42, Try.ntmps42
  go_wp2
  go_loopg [8, 9] n (fun k lv iv wr => ∃ (R : List Int) (i : Nat), iv = .int .i64 i ∧ Srch (usesC C) n (a : Int) R i ∧ RndS w wr w.heap.size (w.heap.size + 1) #[.int .i64 m, Vi, Vl, Vo, Vb, Vc, Vj, Vf, .slice AA n cA, Vs, Vt] n lv (a : Int) R ∧ k = n - i)
  case atStart => exact ⟨[], 0, rfl, HSR0.out, HS0.out, rfl⟩
  case round =>
    obtain ⟨R, i, rfl, hsr, hst, hgk⟩ := hrel
    subst hgk
    have HSR := Lib.hid hsr
    have HST := Lib.hid hst
    have hll := hsr.len
    have hil := hsr.le
    clear hsr hst HS0 HSR0
    obtain ⟨Ao, co, rfl⟩ := own_slice HST.out.row
    obtain ⟨c0, c1, c2, c3, c4, c5, c6, c7, c8, c9, c10⟩ := rbox_of HST.out.box
    obtain ⟨N, hNe⟩ : ∃ N, ((a : Int) :: R).length = N := ⟨_, rfl⟩
    rw [hNe] at hll hil ⊢
    have HNE := Lib.hid hNe
    clear hNe
    by_cases hlt : i < N
    · obtain ⟨x, hx⟩ : ∃ x, ((a : Int) :: R)[i]? = some x := ⟨_, List.getElem?_eq_getElem (by rw [HNE.out]; exact hlt)⟩
      have hxr := HSR.out.inr x (List.mem_of_getElem? hx)
      obtain ⟨xn, rfl⟩ : ∃ xn : Nat, x = (xn : Int) := ⟨x.toNat, by unfold InR at hxr; omega⟩
      have hxn : xn < n := by unfold InR at hxr; omega
      have hre : RowE 1 encI wr (.slice Ao ((a : Int) :: R).length co) ((a : Int) :: R) := own_rowe lenI (by rw [flat_ints]; exact HST.out.row)
      obtain ⟨A', c', eA', _, _, hrun⟩ := hre
      injection eA' with g1 g2 g3
      subst g1
      clear g2 g3
      obtain ⟨b1, off1, rfl, hb1, hcell1⟩ := hrun i _ hx
      have o0 := hcell1 0 _ rfl
      simp only [Nat.mul_one, Nat.add_zero] at o0
      have HX := Lib.hid hx
      clear hcell1 hrun hx hxr
      obtain ⟨z, hz⟩ : ∃ z, C.ands[xn]? = some z := ⟨_, List.getElem?_eq_getElem (by rw [HN.out]; exact hxn)⟩
      obtain ⟨b, off, rfl, hb, hcell⟩ := HA.out xn z hz
      have hzo := HFIT.out z (List.mem_of_getElem? hz)
      have HZ := Lib.hid hz
      clear hz
      obtain ⟨x0, x1, x2⟩ := z
      have i0 := (HST.out.below.cell (p := ⟨b, off + (xn * 3 + 0), none⟩) hb).trans (hcell 0 _ rfl)
      have i1 := (HST.out.below.cell (p := ⟨b, off + (xn * 3 + 1), none⟩) hb).trans (hcell 1 _ rfl)
      have i2 := (HST.out.below.cell (p := ⟨b, off + (xn * 3 + 2), none⟩) hb).trans (hcell 2 _ rfl)
      simp only [← Nat.add_assoc, Nat.add_zero] at i0 i1 i2
      obtain ⟨_, ⟨a1, a2⟩, ⟨d1, d2⟩⟩ := hzo
      simp only at a1 a2 d1 d2
      have q1 := tdiv_nn (b := 2) a1
      have q2 := tdiv_nn (b := 2) d1
      have z1 : 0 ≤ x1 / 2 := by omega
      have z2 : x1 / 2 < ((m + 1 : Nat) : Int) := by omega
      have z3 : 0 ≤ x2 / 2 := by omega
      have z4 : x2 / 2 < ((m + 1 : Nat) : Int) := by omega
      have z5 : IntKind.i64.wrap (x1 / 2) = x1 / 2 := i64_small (by omega) (by omega)
      have z6 : IntKind.i64.wrap (x2 / 2) = x2 / 2 := i64_small (by omega) (by omega)
      have z7 : x1 / 2 < (m : Int) + 1 := by omega
      have z8 : x2 / 2 < (m : Int) + 1 := by omega
      obtain ⟨l, hl⟩ : ∃ l, G[(x1 / 2).toNat]? = some l := ⟨_, List.getElem?_eq_getElem (by rw [HG.out]; omega)⟩
      obtain ⟨r, hr⟩ : ∃ r, G[(x2 / 2).toNat]? = some r := ⟨_, List.getElem?_eq_getElem (by rw [HG.out]; omega)⟩
      have hnw := (Blk.below HGG.out HST.out.below (Blk.lt HGG.out))
      have n1 := Nums.cell hnw hl
      have n2 := Nums.cell hnw hr
      have HLR := Lib.hid (gate_use HZ.out (l := l) (r := r) (by rw [HGE.out]; simp [List.getD, hl]) (by rw [HGE.out]; simp [List.getD, hr]))
      have huse := use_at HU.out (i := xn) (by rw [HUL.out]; exact hxn)
      have hlr : (l < 0 ∨ l < (n : Int)) ∧ (r < 0 ∨ r < (n : Int)) ∧ (l < 0 → l = -1) ∧ (r < 0 → r = -1) := by
        obtain ⟨p, _, hp, hp1, hp2⟩ := huse
        have e : p = (l, r) := by
          have h1 := HLR.out
          simp only [Int.toNat_natCast] at h1
          simpa using hp.symm.trans h1
        subst e
        unfold UseOk at hp1 hp2
        rw [HUL.out] at hp1 hp2
        simp only at hp1 hp2
        omega
      obtain ⟨hl2, hr2, hl3, hr3⟩ := hlr
      have HE1 : Hid (0 ≤ l → Edge (usesC C) (xn : Int) l) := Lib.hid (fun h => ⟨by omega, by rw [HLR.out]; exact .inl rfl⟩)
      have HE2 : Hid (0 ≤ r → Edge (usesC C) (xn : Int) r) := Lib.hid (fun h => ⟨by omega, by rw [HLR.out]; exact .inr rfl⟩)
      have HEE : Hid (∀ y, Edge (usesC C) (xn : Int) y → y = l ∨ y = r) := Lib.hid (fun y hy => by
        have := hy.2
        rw [HLR.out] at this
        rcases this with h | h
        · exact .inl h.symm
        · exact .inr h.symm)
      have hbz := Nat.lt_of_lt_of_le hb HST.out.below.size
      have hggz : gg < wr.heap.size := Blk.lt hnw
      have hbld := build_two l r
      have hk0 : (0 : Int) ≤ (i : Int) := by omega
      have hk1 : (i : Int) < (N : Int) := by omega
      have hk2 : (0 : Int) ≤ (xn : Int) := by omega
      have hk3 : (xn : Int) < (n : Int) := by omega
      have HNW := Lib.hid hnw
      have hxn2 : ((xn : Int)).toNat = xn := by omega
      clear hcell huse hnw
      have f1 := World.new_ne wr _ c8
      have f2 := World.new_ne wr _ o0
      have f3 := World.new_ne wr _ i0
      have f4 := World.new_ne wr _ i1
      have f5 := World.new_ne wr _ i2
      go_wp2
      go_region_held3 (fun w' => w'.cell? ⟨w.heap.size, 8, none⟩ = some (.slice (some ⟨b, off, none⟩) n cA) ∧ w'.cell? ⟨b1, off1 + i, none⟩ = some (.int .i64 (xn : Int)) ∧ w'.cell? ⟨b, off + xn * 3, none⟩ = some (.int .i64 x0) ∧ w'.cell? ⟨b, off + xn * 3 + 1, none⟩ = some (.int .i64 x1) ∧ w'.cell? ⟨b, off + xn * 3 + 2, none⟩ = some (.int .i64 x2)) (first | exact ⟨c8, o0, i0, i1, i2⟩ | go_keep) (fail)
      have HST6 : Hid (RndS w (wr.alloc (.cells #[.int .i64 x0, .int .i64 x1, .int .i64 x2] 49)).drew w.heap.size (w.heap.size + 1) #[.int .i64 m, Vi, Vl, Vo, Vb, Vc, Vj, Vf, .slice (some ⟨b, off, none⟩) n cA, Vs, Vt] n (.slice (some ⟨b1, off1, none⟩) N co) (a : Int) R) := Lib.hid (by
        have := (HST.out.alloc (.cells #[.int .i64 x0, .int .i64 x1, .int .i64 x2] 49)).drew
        rw [HNE.out] at this
        exact this)
      have hx6 : Blk (wr.alloc (.cells #[.int .i64 x0, .int .i64 x1, .int .i64 x2] 49)).drew wr.heap.size 49 #[.int .i64 x0, .int .i64 x1, .int .i64 x2] := (Blk.new _ _ _).drew
      have hn6 : Nums (wr.alloc (.cells #[.int .i64 x0, .int .i64 x1, .int .i64 x2] 49)).drew gg G := (Blk.alloc HNW.out _).drew
      have hz6 : (wr.alloc (.cells #[.int .i64 x0, .int .i64 x1, .int .i64 x2] 49)).drew.heap.size = wr.heap.size + 1 := by
        show (wr.alloc _).heap.size = _
        simp
      generalize (wr.alloc (.cells #[.int .i64 x0, .int .i64 x1, .int .i64 x2] 49)).drew = w6 at *
      have x61 := hx6.cell 1
      have x62 := hx6.cell 2
      simp only [List.getElem?_toArray, List.getElem?_cons_zero, List.getElem?_cons_succ] at x61 x62
      have n61 := Nums.cell hn6 hl
      have n62 := Nums.cell hn6 hr
      have f61 := World.new_ne w6 _ x61
      have f62 := World.new_ne w6 _ x62
      have f63 := World.new_ne w6 _ n61
      have f64 := World.new_ne w6 _ n62
      have HLW := Lib.hid HST.out.lt
      clear c0 c1 c2 c3 c4 c5 c6 c7 c8 c9 c10 o0 i0 i1 i2 n1 n2 hx6 hn6 f1 f2 f3 f4 f5 hl hr
      go_wp2
      go_region_held3 (fun w' => w'.cell? ⟨wr.heap.size, 1, none⟩ = some (.int .i64 x1) ∧ w'.cell? ⟨wr.heap.size, 2, none⟩ = some (.int .i64 x2) ∧ w'.cell? ⟨gg, (x1 / 2).toNat, none⟩ = some (.int .i64 l) ∧ w'.cell? ⟨gg, (x2 / 2).toNat, none⟩ = some (.int .i64 r)) (first | exact ⟨x61, x62, n61, n62⟩ | go_keep) (fail)
      go_wp2
      have HSA : Hid (RndS w (w6.alloc (.cells #[.int .i64 l, .int .i64 r] 50)).drew w.heap.size (w.heap.size + 1) #[.int .i64 m, Vi, Vl, Vo, Vb, Vc, Vj, Vf, .slice (some ⟨b, off, none⟩) n cA, Vs, Vt] n (.slice (some ⟨b1, off1, none⟩) N co) (a : Int) R) := Lib.hid (HST6.out.alloc _).drew
      have HBB : Hid (Blk (w6.alloc (.cells #[.int .i64 l, .int .i64 r] 50)).drew w6.heap.size 50 #[.int .i64 l, .int .i64 r]) := Lib.hid (Blk.new _ _ _).drew
      rw [hz6] at HBB
      have hgb : w.heap.size + 1 < wr.heap.size + 1 := by have := HLW.out; omega
      generalize hgbe : wr.heap.size + 1 = gb at *
      clear hgbe
      go_loopg [8, 12] 2 (fun k lv iv wx => ∃ (t : Nat) (R2 : List Int), t ≤ 2 ∧ iv = .int .i64 t ∧ k = 2 - t ∧ Srch (usesC C) n (a : Int) R2 i ∧ ((a : Int) :: R2)[i]? = some (xn : Int) ∧ RndS w wx w.heap.size (w.heap.size + 1) #[.int .i64 m, Vi, Vl, Vo, Vb, Vc, Vj, Vf, .slice (some ⟨b, off, none⟩) n cA, Vs, Vt] n lv (a : Int) R2 ∧ Blk wx gb 50 #[.int .i64 l, .int .i64 r] ∧ (0 < t → 0 ≤ l → l ∈ (a : Int) :: R2 ∧ l ≠ (a : Int)) ∧ (1 < t → 0 ≤ r → r ∈ (a : Int) :: R2 ∧ r ≠ (a : Int)))
      case atStart => exact ⟨0, R, by omega, rfl, rfl, HSR.out, HX.out, HSA.out, HBB.out, fun h => by omega, fun h => by omega⟩
      case round =>
        obtain ⟨t, R2, ht, rfl, hgk, hsr2, hx2, hst2, hbb, hd1, hd2⟩ := hrel
        subst hgk
        have HS2 := Lib.hid hsr2
        have HX2 := Lib.hid hx2
        have HT2 := Lib.hid hst2
        have HB2 := Lib.hid hbb
        have HD1 := Lib.hid hd1
        have HD2 := Lib.hid hd2
        obtain ⟨A2, c2, rfl⟩ := own_slice HT2.out.row
        have p0 := HB2.out.cell 0
        have p1 := HB2.out.cell 1
        simp only [List.getElem?_toArray, List.getElem?_cons_zero, List.getElem?_cons_succ] at p0 p1
        clear hsr2 hx2 hst2 hbb hd1 hd2 HSA HBB
        have h3 : t = 0 ∨ t = 1 ∨ t = 2 := by omega
        rcases h3 with rfl | rfl | rfl
        · have hbd0 := hl2
          by_cases e0 : l = (a : Int)
          · have HCY := Lib.hid (HS2.out.yes HX2.out (by have := HE1.out (by omega); rwa [e0] at this))
            have eq1 : (l == (a : Int)) = true := by simpa using e0
            clear e0
            go_wp2
            go_ret
            exact ⟨_, rfl, ⟨fun _ => HCY.out, fun _ => rfl⟩, HT2.out.below⟩
          · have eq1 : (l == (a : Int)) = false := by simpa using e0
            have HE0 := Lib.hid e0
            clear e0
            by_cases y0 : l < 0
            · have y1 : decide (0 ≤ l) = false := decide_eq_false (by omega)
              go_wp2
              go_roundg (2 - (0 + 1))
              case measure => omega
              case rel => exact ⟨1, R2, by omega, by go_num, rfl, HS2.out, HX2.out, HT2.out, HB2.out, fun _ h0 => absurd h0 (by omega), fun h => by omega⟩
            · have y1 : (0 : Int) ≤ l := by omega
              have y2 : l < (n : Int) := by omega
              obtain ⟨yn, hyn⟩ : ∃ yn : Nat, l = (yn : Int) := ⟨l.toNat, by omega⟩
              have hd := HT2.out.done.cell (dnT_get (n := n) (L := R2) (k := yn) (by omega))
              have hfd := Blk.frozen HT2.out.done yn
              rw [← hyn] at hd
              have y3 : l.toNat = yn := by omega
              have HYN := Lib.hid hyn
              clear hyn
              by_cases hin : l ∈ R2
              · rw [decide_eq_true hin] at hd
                have HIN := Lib.hid hin
                clear hin
                go_wp2
                go_roundg (2 - (0 + 1))
                case measure => omega
                case rel => exact ⟨1, R2, by omega, by go_num, rfl, HS2.out, HX2.out, HT2.out, HB2.out, fun _ h0 => ⟨List.mem_cons_of_mem _ HIN.out, HE0.out⟩, fun h => by omega⟩
              · rw [decide_eq_false hin] at hd
                have HSN := Lib.hid (HS2.out.add (y := l) ⟨y1, y2⟩ hin HE0.out ((HS2.out.path _ (List.mem_of_getElem? HX2.out)).trans (Path.one (HE1.out y1))))
                have HXN : Hid (((a : Int) :: (R2 ++ [l]))[i]? = some (xn : Int)) := Lib.hid (by
                  have := List.getElem?_append_left (l₁ := (a : Int) :: R2) (l₂ := [l]) (i := i) ((List.getElem?_eq_some_iff.1 HX2.out).1)
                  rw [HX2.out] at this
                  exact this)
                have hln := HSN.out.len
                simp only [List.length_cons, List.length_append, List.length_nil] at hln
                obtain ⟨i0, hi0, hz0, hz1, hz2⟩ := info_of2 infoI2
                have HI0 := Lib.hid (And.intro hi0 (And.intro hz0 (And.intro hz1 hz2)))
                have HOO : Hid (((wr.setCell ⟨w.heap.size + 1, yn, none⟩ (.bool true)).alloc (.cells #[.int .i64 l] 3)).ownsRow (w.heap.size + 1 + 1) 3 1 (.slice A2 ((a : Int) :: R2).length c2) ((a : Int) :: R2).length (((a : Int) :: R2).map (Value.int .i64))) := Lib.hid (by
                  refine own_of_block HT2.out.row fun g hg => ?_
                  have hg2 := HT2.out.row.lt g hg
                  exact (Below.heap_alloc _ _ g (by simp [World.setCell]; exact hg2.2)).trans (Below.heap_setCell _ _ _ _ (by simp; omega)))
                have hr1 := reads_one (wr.setCell ⟨w.heap.size + 1, yn, none⟩ (.bool true)) (.int .i64 l) 3
                have e9 : (wr.setCell ⟨w.heap.size + 1, yn, none⟩ (.bool true)).heap.size = wr.heap.size := by simp [World.setCell]
                rw [e9] at hr1
                have HR1 := Lib.hid hr1
                have hgds := HT2.out.lt
                have e7 : ¬ gb = w.heap.size + 1 := by omega
                have e8 : ¬ w.heap.size + 1 = gb := by omega
                clear hi0 hz0 hz1 hz2 hr1 hin
                go_wp2_with (at_builtin; refine wpList_append_any _ rfl (.tmp 73) (.tmp 77) _ rfl (w.heap.size + 1 + 1) 3 i0 _ 1 8 Try.underlying22 HI0.out.1 HI0.out.2.1 HI0.out.2.2.1 HI0.out.2.2.2 rfl (by omega) (.slice A2 ((a : Int) :: R2).length c2) ((a : Int) :: R2).length (((a : Int) :: R2).map (Value.int .i64)) rfl HOO.out (wr.heap.size + 1) (some ⟨wr.heap.size, 0, none⟩) 1 1 [.int .i64 l] rfl HR1.out (by simp [Value.oneCell']) (by simp only [maxLen, List.length_cons]; omega) (by simp only [List.length_cons]; omega) (by simp [World.setCell]; omega) ?_; intro v3 w3 hown3 hg3 hat3; have HS3 := Lib.hid (HT2.out.add (i := yn) (by omega) (by omega) (by omega) hg3 (by have := hown3; rw [HYN.out] at this; exact this)); have HB3 := Lib.hid (blk_keep HB2.out HT2.out (by decide) (by omega) hg3); clear hown3 hg3 hat3)
                go_roundg (2 - (0 + 1))
                case measure => omega
                case rel => exact ⟨1, R2 ++ [l], by omega, by go_num, rfl, HSN.out, HXN.out, by have := HS3.out; rwa [← HYN.out] at this, HB3.out, fun _ h0 => ⟨by simp, HE0.out⟩, fun h => by omega⟩
        · have hbd1 := hr2
          by_cases e0 : r = (a : Int)
          · have HCY := Lib.hid (HS2.out.yes HX2.out (by have := HE2.out (by omega); rwa [e0] at this))
            have eq1 : (r == (a : Int)) = true := by simpa using e0
            clear e0
            go_wp2
            go_ret
            exact ⟨_, rfl, ⟨fun _ => HCY.out, fun _ => rfl⟩, HT2.out.below⟩
          · have eq1 : (r == (a : Int)) = false := by simpa using e0
            have HE0 := Lib.hid e0
            clear e0
            by_cases y0 : r < 0
            · have y1 : decide (0 ≤ r) = false := decide_eq_false (by omega)
              go_wp2
              go_roundg (2 - (1 + 1))
              case measure => omega
              case rel => exact ⟨2, R2, by omega, by go_num, rfl, HS2.out, HX2.out, HT2.out, HB2.out, fun _ h0 => HD1.out (by omega) h0, fun _ h0 => absurd h0 (by omega)⟩
            · have y1 : (0 : Int) ≤ r := by omega
              have y2 : r < (n : Int) := by omega
              obtain ⟨yn, hyn⟩ : ∃ yn : Nat, r = (yn : Int) := ⟨r.toNat, by omega⟩
              have hd := HT2.out.done.cell (dnT_get (n := n) (L := R2) (k := yn) (by omega))
              have hfd := Blk.frozen HT2.out.done yn
              rw [← hyn] at hd
              have y3 : r.toNat = yn := by omega
              have HYN := Lib.hid hyn
              clear hyn
              by_cases hin : r ∈ R2
              · rw [decide_eq_true hin] at hd
                have HIN := Lib.hid hin
                clear hin
                go_wp2
                go_roundg (2 - (1 + 1))
                case measure => omega
                case rel => exact ⟨2, R2, by omega, by go_num, rfl, HS2.out, HX2.out, HT2.out, HB2.out, fun _ h0 => HD1.out (by omega) h0, fun _ h0 => ⟨List.mem_cons_of_mem _ HIN.out, HE0.out⟩⟩
              · rw [decide_eq_false hin] at hd
                have HSN := Lib.hid (HS2.out.add (y := r) ⟨y1, y2⟩ hin HE0.out ((HS2.out.path _ (List.mem_of_getElem? HX2.out)).trans (Path.one (HE2.out y1))))
                have HXN : Hid (((a : Int) :: (R2 ++ [r]))[i]? = some (xn : Int)) := Lib.hid (by
                  have := List.getElem?_append_left (l₁ := (a : Int) :: R2) (l₂ := [r]) (i := i) ((List.getElem?_eq_some_iff.1 HX2.out).1)
                  rw [HX2.out] at this
                  exact this)
                have hln := HSN.out.len
                simp only [List.length_cons, List.length_append, List.length_nil] at hln
                obtain ⟨i0, hi0, hz0, hz1, hz2⟩ := info_of2 infoI2
                have HI0 := Lib.hid (And.intro hi0 (And.intro hz0 (And.intro hz1 hz2)))
                have HOO : Hid (((wr.setCell ⟨w.heap.size + 1, yn, none⟩ (.bool true)).alloc (.cells #[.int .i64 r] 3)).ownsRow (w.heap.size + 1 + 1) 3 1 (.slice A2 ((a : Int) :: R2).length c2) ((a : Int) :: R2).length (((a : Int) :: R2).map (Value.int .i64))) := Lib.hid (by
                  refine own_of_block HT2.out.row fun g hg => ?_
                  have hg2 := HT2.out.row.lt g hg
                  exact (Below.heap_alloc _ _ g (by simp [World.setCell]; exact hg2.2)).trans (Below.heap_setCell _ _ _ _ (by simp; omega)))
                have hr1 := reads_one (wr.setCell ⟨w.heap.size + 1, yn, none⟩ (.bool true)) (.int .i64 r) 3
                have e9 : (wr.setCell ⟨w.heap.size + 1, yn, none⟩ (.bool true)).heap.size = wr.heap.size := by simp [World.setCell]
                rw [e9] at hr1
                have HR1 := Lib.hid hr1
                have hgds := HT2.out.lt
                have e7 : ¬ gb = w.heap.size + 1 := by omega
                have e8 : ¬ w.heap.size + 1 = gb := by omega
                clear hi0 hz0 hz1 hz2 hr1 hin
                go_wp2_with (at_builtin; refine wpList_append_any _ rfl (.tmp 73) (.tmp 77) _ rfl (w.heap.size + 1 + 1) 3 i0 _ 1 8 Try.underlying22 HI0.out.1 HI0.out.2.1 HI0.out.2.2.1 HI0.out.2.2.2 rfl (by omega) (.slice A2 ((a : Int) :: R2).length c2) ((a : Int) :: R2).length (((a : Int) :: R2).map (Value.int .i64)) rfl HOO.out (wr.heap.size + 1) (some ⟨wr.heap.size, 0, none⟩) 1 1 [.int .i64 r] rfl HR1.out (by simp [Value.oneCell']) (by simp only [maxLen, List.length_cons]; omega) (by simp only [List.length_cons]; omega) (by simp [World.setCell]; omega) ?_; intro v3 w3 hown3 hg3 hat3; have HS3 := Lib.hid (HT2.out.add (i := yn) (by omega) (by omega) (by omega) hg3 (by have := hown3; rw [HYN.out] at this; exact this)); have HB3 := Lib.hid (blk_keep HB2.out HT2.out (by decide) (by omega) hg3); clear hown3 hg3 hat3)
                go_roundg (2 - (1 + 1))
                case measure => omega
                case rel => exact ⟨2, R2 ++ [r], by omega, by go_num, rfl, HSN.out, HXN.out, by have := HS3.out; rwa [← HYN.out] at this, HB3.out, fun _ h0 => (by have := HD1.out (by omega) h0; exact ⟨by have := this.1; simp at this ⊢; rcases this with h | h; exact .inl h; exact .inr (.inl h), this.2⟩), fun _ h0 => ⟨by simp, HE0.out⟩⟩
        · go_wp2
          go_roundg (n - (i + 1))
          case measure => omega
          case rel =>
            refine ⟨R2, i + 1, by go_num, HS2.out.next HX2.out (fun y hy => ?_), HT2.out, rfl⟩
            rcases HEE.out y hy with rfl | rfl
            · have hy0 : 0 ≤ y := by have := hy.1; omega
              exact HD1.out (by omega) hy0
            · have hy0 : 0 ≤ y := by have := hy.1; omega
              exact HD2.out (by omega) hy0
    · have hie : i = N := by omega
      have HNO := Lib.hid (HSR.out.no (by rw [HNE.out]; exact hie))
      subst hie
      go_wp2
      go_ret
      exact ⟨_, rfl, ⟨fun h => (by cases h), fun h => absurd h HNO.out⟩, HST.out.below⟩
end Go.Proofs.Ytjakckfmdfpekaa
