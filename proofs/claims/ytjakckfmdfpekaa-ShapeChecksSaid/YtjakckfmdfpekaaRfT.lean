/- The document's own way to the gates' order: it tells the same gates in the same order. -/
import Derived.Test.YtjakckfmdfpekaaSetP
import Derived.Test.YtjakckfmdfpekaaUses
import Derived.Test.YtjakckfmdfpekaaRfA
import Derived.Test.YtjakckfmdfpekaaRight
import Derived.Deep.LoopGhost
namespace Go.Proofs.Ytjakckfmdfpekaa
open Go.RowKit

section
variable {uses : List (Int × Int)}
/-- Where no gate can be told any more: all have been told just if none comes round. -/
theorem stuck_all (hu : UsesOk uses.length uses) (hn : uses.length ≤ 16384) {L : List Int} (hG : Greedy uses L) (hs : ∀ y, ¬ Avail uses L y) : L.length = uses.length ↔ firstF uses = -1 := by
  constructor
  · intro hl
    refine Classical.byContradiction fun hne => ?_
    obtain ⟨hr, y, he, hp⟩ := firstF_some hu hn hne
    have hperm := greedy_perm hG hl
    have hmem : ∀ x, InR uses.length x → x ∈ L := fun x hx => hperm.mem_iff.2 (mem_intRange.2 hx)
    have pos : ∀ x, InR uses.length x → ∃ k : Nat, L[k]? = some x := fun x hx => List.getElem?_of_mem (hmem x hx)
    have edge_lt : ∀ {x y : Int} {k : Nat}, L[k]? = some x → Edge uses x y → ∃ j : Nat, L[j]? = some y ∧ j < k := fun {x y k} hk hE => by
      have := hG.before k x hk y hE
      obtain ⟨j, hj⟩ := List.getElem?_of_mem this
      rw [List.getElem?_take] at hj
      split at hj
      · rename_i hjk
        exact ⟨j, hj, hjk⟩
      · cases hj
    have path_le : ∀ {a b : Int}, Path uses a b → ∀ k : Nat, L[k]? = some a → ∃ j : Nat, L[j]? = some b ∧ j ≤ k := fun hp => by
      induction hp with
      | refl => intro k hk; exact ⟨k, hk, Nat.le_refl _⟩
      | step e _ ih =>
        intro k hk
        obtain ⟨j, hj, hjk⟩ := edge_lt hk e
        obtain ⟨i, hi, hij⟩ := ih j hj
        exact ⟨i, hi, by omega⟩
    obtain ⟨k, hk⟩ := pos _ hr
    obtain ⟨j, hj, hjk⟩ := edge_lt hk he
    obtain ⟨i, hi, hij⟩ := path_le hp j hj
    have := nodup_get hG.nodup hk hi
    omega
  · intro hf
    refine Classical.byContradiction fun hne => ?_
    have hle := hG.len_le
    obtain ⟨y0, hy0r, hy0⟩ := some_left (L := L) (n := uses.length) (by omega)
    obtain ⟨y, ⟨hyr, hyn⟩, hmin⟩ := least_rank (rank uses) (P := fun y => InR uses.length y ∧ y ∉ L) (rank uses y0) y0 (Nat.le_refl _) ⟨hy0r, hy0⟩
    refine hs y ⟨hyr, hyn, fun z hE => ?_⟩
    refine Classical.byContradiction fun hz => ?_
    have h1 := rank_lt hu hn hf hyr hE
    have h2 := hmin z ⟨edge_in hu hyr hE, hz⟩
    omega
/-- May a gate be told? -/
theorem avail_iff (hu : UsesOk uses.length uses) {L : List Int} {i l r : Int} (hi : InR uses.length i) (hLR : uses.getD i.toNat (-1, -1) = (l, r)) (hn : i ∉ L) : Avail uses L i ↔ ((l < 0 ∨ l ∈ L) ∧ (r < 0 ∨ r ∈ L)) := by
  obtain ⟨p, hp0, hp, hp1, hp2⟩ := use_at hu (i := i.toNat) (by unfold InR at hi; omega)
  constructor
  · rintro ⟨_, _, h⟩
    have key : ∀ u : Int, (u = l ∨ u = r) → u < 0 ∨ u ∈ L := fun u hu' => by
      by_cases hneg : u < 0
      · exact .inl hneg
      · exact .inr (h u ⟨by omega, by rw [hLR]; rcases hu' with rfl | rfl; exact .inl rfl; exact .inr rfl⟩)
    exact ⟨key l (.inl rfl), key r (.inr rfl)⟩
  · rintro ⟨h1, h2⟩
    refine ⟨hi, hn, fun z hE => ?_⟩
    obtain ⟨hz, hE⟩ := hE
    have hzin := edge_in hu hi ⟨hz, hE⟩
    rw [hLR] at hE
    unfold InR at hzin
    rcases hE with rfl | rfl
    · exact h1.resolve_left (by omega)
    · exact h2.resolve_left (by omega)
/-- The search from one gate: what is listed can be reached, and what is listed leads to what is listed. -/
theorem round_yes {a x : Int} (hp : Path uses a x) (hE : Edge uses x a) : Cyc uses a := by
  cases hp with
  | refl => exact ⟨a, hE, .refl a⟩
  | step e p => exact ⟨_, e, p.trans (Path.one hE)⟩
theorem round_no {a : Int} {L : List Int} (ha : a ∈ L) (hc : ∀ x ∈ L, ∀ y, Edge uses x y → y ∈ L ∧ y ≠ a) : ¬ Cyc uses a := by
  rintro ⟨y, he, hp⟩
  have key : ∀ {s t : Int}, Path uses s t → s ∈ L → s ≠ a → t ≠ a := fun hp => by
    induction hp with
    | refl => exact fun _ h => h
    | step e _ ih => intro hs _; have := hc _ hs _ e; exact ih this.1 this.2
  have h1 := hc a ha y he
  exact key hp h1.1 h1.2 rfl
end
end Go.Proofs.Ytjakckfmdfpekaa

namespace Go.Proofs.Ytjakckfmdfpekaa
open Go.RowKit

set_option maxHeartbeats 4000000 in
set_option maxRecDepth 100000 in
theorem rgates_any (w : World) (V : CV) (C : Circ) (h : C.In w V) (hm0 : 0 ≤ C.max) (hm : C.max ≤ 16384) (hal : C.ands.length ≤ 16384) (hfit : ∀ z ∈ C.ands, FitT C.max z) :
    Calls Try.prog 41 #[V.val C.max] w fun e w' => ∃ g, e = .returned (.slice (some ⟨g, 0, none⟩) (C.max.toNat + 1) (C.max.toNat + 1)) ∧ w.heap.size ≤ g ∧ Below w.heap.size w w' ∧ Nums w' g (gateOf C) := by
  obtain ⟨m, hmm⟩ : ∃ m : Nat, C.max = (m : Int) := ⟨C.max.toNat, by omega⟩
  have hmt : C.max.toNat = m := by rw [hmm]; rfl
  rw [hmt]
  rw [hmm] at hm hfit ⊢
  clear hmt
  have hgo : gateOf C = gateF C.ands 0 (List.replicate (m + 1) (-1)) := by unfold gateOf; rw [hmm]; rfl
  have HGO := Lib.hid hgo
  clear hgo hm0
  have HB0 := Lib.hid (Below.refl w.heap.size w)
  have hmk := make_ints (m + 1) (by omega)
  push_cast at hmk
  have HM : Hid (Mid2 w ((w.alloc (.cells (V.cells m) 29)).alloc (.cells (madeCells #[Value.int .i64 0] (m + 1)) 3)) w.heap.size (w.heap.size + 1) (V.cells m) (List.replicate 0 (-1) ++ List.replicate (m + 1 - 0) 0)) := by
    refine Lib.hid ⟨(HB0.out.alloc (Nat.le_refl _) _).alloc (by simp) _, (Blk.new _ _ _).alloc _, ?_⟩
    have := new_ints (w.alloc (.cells (V.cells m) 29)) (m + 1)
    simpa using this
  obtain ⟨AA, cA, eA, _, _, hA⟩ := h.a
  obtain ⟨Vi, Vl, Vo, Vb, Vc, Vj, Vf, Va, Vs, Vt⟩ := V
  simp only at eA
  subst eA
  have HA := Lib.hid hA
  have HFIT := Lib.hid hfit
  clear hA h hfit hmm
  generalize hn : C.ands.length = n at *
  have HN := Lib.hid hn
  clear hn
  go_enter Try.func41, Try.ntmps41
  go_wp2
  go_loopw [4] (fun i wr => ∃ k : Nat, k ≤ m + 1 ∧ i = .int .i64 k ∧ Mid2 w wr w.heap.size (w.heap.size + 1) _ (List.replicate k (-1) ++ List.replicate (m + 1 - k) 0)) (fun i _ => m + 1 - (intOf i).toNat)
  case atStart => exact ⟨0, Nat.zero_le _, rfl, HM.out⟩
  case round =>
    obtain ⟨k, hk, rfl, hmid⟩ := hrel
    have HMM := Lib.hid hmid
    clear hmid
    obtain ⟨c0, c1, c2, c3, c4, c5, c6, c7, c8, c9, c10⟩ := rbox_of HMM.out.box
    by_cases hlt : k < m + 1
    · have hle : (k : Int) ≤ (m : Int) := by omega
      have hcell := HMM.out.nums.cell (fill_get hlt)
      have hfr := Blk.frozen HMM.out.nums k
      go_wp2
      go_roundw
      case rel =>
        have := HMM.out.set_ (by omega) (by omega) k (-1)
        rw [fill_set hlt] at this
        exact ⟨k + 1, by omega, by go_num, this⟩
      case measure => simp [intOf]; omega
    · have : k = m + 1 := by omega
      subst this
      have hle : ¬ ((m + 1 : Nat) : Int) ≤ (m : Int) := by omega
      have hm1 := HMM.out
      simp only [Nat.sub_self, List.replicate_zero, List.append_nil] at hm1
      have HM1 := Lib.hid hm1
      clear hm1
      clear HMM HM
      go_wp2
      clear c0 c1 c2 c3 c4 c5 c6 c7 c8 c9 c10
      go_loopw [5] (fun i wr => ∃ (k : Nat) (G : List Int), k ≤ n ∧ i = .int .i64 k ∧ G.length = m + 1 ∧ gateF C.ands 0 (List.replicate (m + 1) (-1)) = gateF (C.ands.drop k) k G ∧ Mid2 w wr w.heap.size (w.heap.size + 1) _ G) (fun i _ => n - (intOf i).toNat)
      case atStart => exact ⟨0, _, Nat.zero_le _, rfl, by simp, rfl, HM1.out⟩
      case round =>
        obtain ⟨k, G, hk, rfl, hgl, hall, hmid⟩ := hrel
        have HMM := Lib.hid hmid
        have HAL := Lib.hid hall
        have HGL := Lib.hid hgl
        clear hmid hall hgl
        obtain ⟨c0, c1, c2, c3, c4, c5, c6, c7, c8, c9, c10⟩ := rbox_of HMM.out.box
        by_cases hlt : k < n
        · have hx := List.getElem?_eq_getElem (l := C.ands) (i := k) (by rw [HN.out]; exact hlt)
          generalize C.ands[k]'(by rw [HN.out]; exact hlt) = x at hx
          obtain ⟨b, off, rfl, hb, hcell⟩ := HA.out k x hx
          have HX := Lib.hid hx
          have hxo := HFIT.out x (List.mem_of_getElem? HX.out)
          clear hx
          obtain ⟨x0, x1, x2⟩ := x
          have h0 := (HMM.out.below.cell (p := ⟨b, off + (k * 3 + 0), none⟩) hb).trans (hcell 0 _ rfl)
          have h1 := (HMM.out.below.cell (p := ⟨b, off + (k * 3 + 1), none⟩) hb).trans (hcell 1 _ rfl)
          have h2 := (HMM.out.below.cell (p := ⟨b, off + (k * 3 + 2), none⟩) hb).trans (hcell 2 _ rfl)
          simp only [Nat.add_zero, ← Nat.add_assoc] at h0 h1 h2
          clear hcell
          obtain ⟨⟨a1, a2⟩, _, _⟩ := hxo
          simp only at a1 a2
          have hq := tdiv_nn (b := 2) a1
          have hq0 : 0 ≤ x0 / 2 := by omega
          have hq1 : x0 / 2 < (m : Int) + 1 := by omega
          have hq2 : (x0 / 2).toNat < G.length := by rw [HGL.out]; omega
          obtain ⟨gv, hgv⟩ : ∃ x, G[(x0 / 2).toNat]? = some x := ⟨_, List.getElem?_eq_getElem hq2⟩
          have hg := HMM.out.nums.cell hgv
          have hfr := Blk.frozen HMM.out.nums (x0 / 2).toNat
          have hk0 : (0 : Int) ≤ (k : Int) := by omega
          have hk1 : (k : Int) < (n : Int) := by omega
          have hgl := Blk.lt HMM.out.nums
          clear hq2 hgv
          go_wp2
          go_roundw
          case rel => exact ⟨k + 1, _, by omega, by go_num, by rw [List.length_set]; exact HGL.out, by rw [HAL.out]; exact gateF_step HX.out, HMM.out.set_ (by omega) (by omega) _ _⟩
          case measure => simp [intOf]; omega
        · have : k = n := by omega
          subst this
          have HG : Hid (gateOf C = G) := Lib.hid (HGO.out.trans (HAL.out.trans (gateF_end (by rw [HN.out]; exact Nat.le_refl _))))
          clear HAL HM1
          go_wp2
          go_ret
          exact ⟨_, rfl, by omega, HMM.out.below, by rw [HG.out]; exact HMM.out.nums⟩
end Go.Proofs.Ytjakckfmdfpekaa

namespace Go.Proofs.Ytjakckfmdfpekaa
open Go.RowKit

/-- The gates that are told, as a table. -/
def dnT (n : Nat) (L : List Int) : List Bool := (List.range n).map (fun (k : Nat) => decide ((k : Int) ∈ L))
theorem dnT_len (n : Nat) (L : List Int) : (dnT n L).length = n := by simp [dnT]
theorem dnT_get {n k : Nat} {L : List Int} (hk : k < n) : (dnT n L)[k]? = some (decide ((k : Int) ∈ L)) := by simp [dnT, hk]
theorem dnT_nil (n : Nat) : dnT n [] = List.replicate n false := by
  apply List.ext_getElem?
  intro i
  by_cases h : i < n
  · rw [dnT_get h]; simp [h]
  · rw [List.getElem?_eq_none (by rw [dnT_len]; omega), List.getElem?_eq_none (by simp; omega)]
theorem dnT_snoc {n k : Nat} {L : List Int} (hk : k < n) : (dnT n L).set k true = dnT n (L ++ [(k : Int)]) := by
  apply List.ext_getElem?
  intro i
  by_cases h : i < n
  · rw [dnT_get h, List.getElem?_set]
    by_cases e : k = i
    · subst e
      simp [dnT_len, hk]
    · rw [if_neg e, dnT_get h]
      have : ¬ (i : Int) = (k : Int) := by omega
      simp [this]
  · rw [List.getElem?_eq_none (by rw [List.length_set, dnT_len]; omega), List.getElem?_eq_none (by rw [dnT_len]; omega)]
/-- What memory holds while gates are told. -/
structure ToldS (w0 w : World) (b gg gd : Nat) (cs : Array Value) (G : List Int) (n : Nat) (v : Value) (L : List Int) : Prop where
  below : Below w0.heap.size w0 w
  box : Blk w b 29 cs
  nums : Nums w gg G
  done : Tab w gd (dnT n L)
  row : w.ownsRow (gd + 1) 3 1 v L.length (L.map (Value.int .i64))
section
variable {w0 w : World} {b gg gd : Nat} {cs : Array Value} {G : List Int} {n : Nat} {v : Value} {L : List Int}
theorem ToldS.drewN (h : ToldS w0 w b gg gd cs G n v L) (k : Nat) : ToldS w0 (w.drewN k) b gg gd cs G n v L := ⟨below_drewN h.below k, h.box.drewN k, Blk.drewN h.nums k, Blk.drewN h.done k, own_of_block h.row fun _ _ => rfl⟩
theorem ToldS.lt (h : ToldS w0 w b gg gd cs G n v L) : gd < w.heap.size := Blk.lt h.done
theorem ToldS.tell (h : ToldS w0 w b gg gd cs G n v L) (h1 : w0.heap.size ≤ gd) (_h2 : b ≠ gd) (_h3 : gg ≠ gd) (hb : b < gd) (hg : gg < gd) {i : Nat} (hi : i < n) {o : Obj} {v' : Value} {w' : World}
    (hgr : ((w.setCell ⟨gd, i, none⟩ (.bool true)).alloc o).grownBy w' v.ownBlock) (ho : w'.ownsRow (gd + 1) 3 1 v' (L.length + 1) ((L ++ [(i : Int)]).map (Value.int .i64))) :
    ToldS w0 w' b gg gd cs G n v' (L ++ [(i : Int)]) := by
  have hlt := h.lt
  have hrow : ∀ k, k ≤ gd → some k ≠ v.ownBlock := fun k hk e => by
    have := (h.row.lt k e.symm).1
    omega
  have hsz : ((w.setCell ⟨gd, i, none⟩ (.bool true)).alloc o).heap.size = w.heap.size + 1 := by simp [World.setCell]
  have hbl : ∀ k, k ≤ gd → w'.heap[k]? = (w.setCell ⟨gd, i, none⟩ (.bool true)).heap[k]? := fun k hk =>
    (hgr.block k (by omega) (hrow k hk)).trans (Below.heap_alloc _ o k (by simp [World.setCell]; omega))
  have hfar : ∀ k, k < gd → w'.heap[k]? = w.heap[k]? := fun k hk => (hbl k (by omega)).trans (Below.heap_setCell _ _ _ _ (by simp; omega))
  refine ⟨h.below.trans ⟨hgr.os, hgr.tape, hgr.output, by have := hgr.size; omega, fun k hk => hfar k (by omega)⟩, (hfar _ hb).trans h.box, (hfar _ hg).trans h.nums, ?_, by simpa using ho⟩
  have := (Tab.set_ h.done i true)
  rw [dnT_snoc hi] at this
  exact (hbl gd (Nat.le_refl _)).trans this
end
theorem make_boolsR (n : Nat) (h : n ≤ 281474976710656) (wx : World) : (Instr.makeSlice 47 (.int .i64 (n : Int)) (.int .i64 (n : Int))).run Try.prog wx = .ok (.slice (some ⟨wx.heap.size, 0, none⟩) n n) (wx.alloc (.cells (madeCells #[Value.bool false] n) 4)) := by
  obtain ⟨i0, hi0, hz0, hz1, hz2⟩ := info_of bool_info
  have := run_make (P := Try.prog) wx 47 4 i0 (.bool false) Try.underlying47 hi0 hz0 .i64 .i64 n n (by omega) (by omega) (by rw [hz2]; omega) (by omega)
  rw [hz1] at this
  simpa [Value.cells] using this
theorem gateOf_lenR (C : Circ) : (gateOf C).length = C.max.toNat + 1 := by unfold gateOf; rw [gateF_len]; simp
theorem gate_use {C : Circ} {k : Nat} {z : Tri} (hz : C.ands[k]? = some z) {l r : Int} (hl : (gateOf C).getD (z.2.1 / 2).toNat 0 = l) (hr : (gateOf C).getD (z.2.2 / 2).toNat 0 = r) : (usesC C).getD ((k : Int)).toNat (-1, -1) = (l, r) := by
  simp [usesC, List.getD, hz, useOf] at *
  exact ⟨hl, hr⟩

set_option maxHeartbeats 20000000 in
set_option maxRecDepth 100000 in
theorem rtold_any (w : World) (V : CV) (C : Circ) (h : C.In w V) (hm0 : 0 ≤ C.max) (hm1 : C.max ≤ 16384) (hna : C.ands.length ≤ 16384) (hfit : ∀ z ∈ C.ands, FitT C.max z) :
    Calls Try.prog 40 #[V.val C.max] w fun e w' => ∃ v L, e = .returned v ∧ w'.ownsRow w.heap.size 3 1 v L.length (L.map (Value.int .i64)) ∧ Greedy (usesC C) L ∧ (∀ y, ¬ Avail (usesC C) L y) ∧ Below w.heap.size w w' := by
  have HU := Lib.hid (usesC_ok hm0 hfit)
  obtain ⟨W0, hW0⟩ : ∃ W0, W0 = w.alloc (.cells (V.cells C.max) 29) := ⟨_, rfl⟩
  have HB0 : Hid (Below w.heap.size w W0) := Lib.hid (by rw [hW0]; exact (Below.refl w.heap.size w).alloc (Nat.le_refl _) _)
  have hbx : Blk W0 w.heap.size 29 (V.cells C.max) := by rw [hW0]; exact Blk.new w _ _
  have HGA := Lib.hid (rgates_any W0 V C (h.below HB0.out) hm0 hm1 hna hfit)
  have hG := gateOf_lenR C
  obtain ⟨G, hGe⟩ : ∃ G, gateOf C = G := ⟨_, rfl⟩
  have HGE := Lib.hid hGe
  rw [hGe] at hG HGA
  have hsz0 : W0.heap.size = w.heap.size + 1 := by rw [hW0]; simp
  obtain ⟨m, hmm⟩ : ∃ m : Nat, C.max = (m : Int) := ⟨C.max.toNat, by omega⟩
  rw [hmm] at HGA hbx hW0 hG hfit ⊢
  have hmt : ((m : Int)).toNat = m := by omega
  rw [hmt] at HGA hG
  have HFIT := Lib.hid hfit
  have HG := Lib.hid hG
  have HBX := Lib.hid hbx
  have HW0 := Lib.hid hW0
  have HSZ := Lib.hid hsz0
  obtain ⟨AA, cA, eA, _, _, hA⟩ := h.a
  have HA := Lib.hid hA
  obtain ⟨Vi, Vl, Vo, Vb, Vc, Vj, Vf, Va, Vs, Vt⟩ := V
  simp only at eA
  subst eA
  have hUL := usesC_len C
  generalize hn : C.ands.length = n at *
  have hmk := make_boolsR n (by omega)
  have HN := Lib.hid hn
  have HUL := Lib.hid hUL
  have hm2 : m ≤ 16384 := by omega
  clear hn hUL h hA hfit hG hGe hbx hW0 hsz0 hmm hmt hm0 hm1
  obtain ⟨c0, c1, c2, c3, c4, c5, c6, c7, c8, c9, c10⟩ := rbox_of HBX.out
  rw [HW0.out] at c0 c1 c2 c3 c4 c5 c6 c7 c8 c9 c10
  go_enter Try.func40, Try.ntmps40
  go_wp2_with (go_at_call 41; rw [HW0.out] at HGA; refine HGA.out.mono ?_; rw [← HW0.out]; rintro e w1 ⟨gg, rfl, hgg, hb1, hn1⟩; have HGG := Lib.hid hgg; have HB1 := Lib.hid hb1; have HN1 := Lib.hid hn1; clear hgg hb1 hn1 c0 c1 c2 c3 c4 c5 c6 c7 c8 c9 c10; obtain ⟨c0, c1, c2, c3, c4, c5, c6, c7, c8, c9, c10⟩ := rbox_of (HBX.out.below HB1.out HBX.out.lt))
  have hgl := Blk.lt HN1.out
  have hge := HGG.out
  rw [HSZ.out] at hge
  have HT0 : Hid (ToldS w (w1.alloc (.cells (madeCells #[Value.bool false] n) 4)) w.heap.size gg w1.heap.size #[.int .i64 m, Vi, Vl, Vo, Vb, Vc, Vj, Vf, .slice AA n cA, Vs, Vt] G n (.slice none 0 0) []) := Lib.hid (by
    refine ⟨(bt HB0.out (Nat.le_refl _) ?_), (HBX.out.below HB1.out HBX.out.lt).alloc _, Blk.alloc HN1.out _, ?_, ⟨rfl, .inl ⟨rfl, rfl⟩⟩⟩
    · exact HB1.out.alloc HB1.out.size _
    · rw [dnT_nil]
      unfold Tab
      rw [made_falses]
      exact Blk.new _ _ _)
  have hw1w : w.heap.size < w1.heap.size := by omega
  generalize hgd : w1.heap.size = gd at *
  clear c0 c1 c2 c3 c4 c5 c6 c7 c8 c9 c10 HB1 HN1 HGG HGA hgd
  go_loopg [5, 6] (n + 1) (fun k o ag wr => ∃ (L : List Int) (again : Bool), ag = .bool again ∧ Greedy (usesC C) L ∧ (again = false → ∀ y, ¬ Avail (usesC C) L y) ∧ ToldS w wr w.heap.size gg gd #[.int .i64 m, Vi, Vl, Vo, Vb, Vc, Vj, Vf, .slice AA n cA, Vs, Vt] G n o L ∧ k = (if again then n + 1 - L.length else 0))
  case atStart => exact ⟨[], true, rfl, .nil, fun h => (by cases h), HT0.out, by simp⟩
  case round =>
    obtain ⟨L, again, rfl, hgr, hno, hst, hgk⟩ := hrel
    have HGR := Lib.hid hgr
    have HNO := Lib.hid hno
    have HST := Lib.hid hst
    have hLl : L.length ≤ n := by have := hgr.len_le; rwa [HUL.out] at this
    clear hgr hno hst
    cases again
    · simp only [Bool.false_eq_true, if_false] at hgk
      go_wp2
      go_ret
      exact ⟨_, rfl, L, own_base HST.out.row (by omega), HGR.out, HNO.out (by first | trivial | rfl), HST.out.below⟩
    · simp only [if_true] at hgk
      subst hgk
      obtain ⟨Ao, co, rfl⟩ := own_slice HST.out.row
      go_wp2
      have HIN0 : Hid (∀ y, Avail (usesC C) L y → (0 : Int) ≤ y) := Lib.hid (fun y hy => hy.1.1)
      go_loopg [5, 6, 7] n (fun j o ag i wx => ∃ q : Nat, q ≤ n ∧ i = .int .i64 q ∧ o = .slice Ao L.length co ∧ ag = .bool false ∧ j = n - q ∧ (∀ y, Avail (usesC C) L y → (q : Int) ≤ y) ∧ ToldS w wx w.heap.size gg gd #[.int .i64 m, Vi, Vl, Vo, Vb, Vc, Vj, Vf, .slice AA n cA, Vs, Vt] G n (.slice Ao L.length co) L)
      case atStart => exact ⟨0, Nat.zero_le _, rfl, rfl, rfl, by simp, HIN0.out, HST.out⟩
      case round =>
        obtain ⟨q, hq, rfl, rfl, rfl, hjk, hle, hst⟩ := hrel
        subst hjk
        have HLE := Lib.hid hle
        clear HST
        have HST := Lib.hid hst
        clear hle hst
        obtain ⟨c0, c1, c2, c3, c4, c5, c6, c7, c8, c9, c10⟩ := rbox_of HST.out.box
        by_cases hlt : q < n
        · have hd := HST.out.done.cell (dnT_get hlt)
          have hfd := Blk.frozen HST.out.done q
          have hk0 : (0 : Int) ≤ (q : Int) := by omega
          have hk1 : (q : Int) < (n : Int) := by omega
          by_cases hin : (q : Int) ∈ L
          · rw [decide_eq_true hin] at hd
            have HNA : Hid (∀ y, Avail (usesC C) L y → ((q + 1 : Nat) : Int) ≤ y) := Lib.hid (fun y hy => by
              have h1 := HLE.out y hy
              have h2 : y ≠ (q : Int) := fun e => hy.2.1 (e ▸ hin)
              omega)
            clear hin
            go_wp2
            go_roundg (n - (q + 1))
            case measure => omega
            case rel => exact ⟨q + 1, by omega, by go_num, rfl, rfl, rfl, HNA.out, HST.out⟩
          · rw [decide_eq_false hin] at hd
            have HNIN := Lib.hid hin
            clear hin
            obtain ⟨z, hz⟩ : ∃ z, C.ands[q]? = some z := ⟨_, List.getElem?_eq_getElem (by rw [HN.out]; exact hlt)⟩
            obtain ⟨b, off, rfl, hb, hcell⟩ := HA.out q z hz
            have hzo := HFIT.out z (List.mem_of_getElem? hz)
            have HZ := Lib.hid hz
            clear hz
            obtain ⟨x0, x1, x2⟩ := z
            have i1 := (HST.out.below.cell (p := ⟨b, off + (q * 3 + 1), none⟩) hb).trans (hcell 1 _ rfl)
            have i2 := (HST.out.below.cell (p := ⟨b, off + (q * 3 + 2), none⟩) hb).trans (hcell 2 _ rfl)
            simp only [← Nat.add_assoc] at i1 i2
            obtain ⟨_, ⟨a1, a2⟩, ⟨b1, b2⟩⟩ := hzo
            simp only at a1 a2 b1 b2
            have q1 := tdiv_nn (b := 2) a1
            have q2 := tdiv_nn (b := 2) b1
            have z1 : 0 ≤ x1 / 2 := by omega
            have z2 : x1 / 2 < ((m + 1 : Nat) : Int) := by omega
            have z3 : 0 ≤ x2 / 2 := by omega
            have z4 : x2 / 2 < ((m + 1 : Nat) : Int) := by omega
            have z5 : IntKind.i64.wrap (x1 / 2) = x1 / 2 := i64_small (by omega) (by omega)
            have z6 : IntKind.i64.wrap (x2 / 2) = x2 / 2 := i64_small (by omega) (by omega)
            have z7 : x1 / 2 < (m : Int) + 1 := by omega
            have z8 : x2 / 2 < (m : Int) + 1 := by omega
            obtain ⟨l, hl⟩ : ∃ l, G[(x1 / 2).toNat]? = some l := ⟨_, List.getElem?_eq_getElem (by rw [HG.out]; omega)⟩
            obtain ⟨r, hr⟩ : ∃ r, G[(x2 / 2).toNat]? = some r := ⟨_, List.getElem?_eq_getElem (by rw [HG.out]; omega)⟩
            have n1 := HST.out.nums.cell hl
            have n2 := HST.out.nums.cell hr
            have hir : InR (usesC C).length (q : Int) := by unfold InR; rw [HUL.out]; omega
            have hLR := gate_use HZ.out (l := l) (r := r) (by rw [HGE.out]; simp [List.getD, hl]) (by rw [HGE.out]; simp [List.getD, hr])
            have HAV : Hid (Avail (usesC C) L (q : Int) ↔ ((l < 0 ∨ l ∈ L) ∧ (r < 0 ∨ r ∈ L))) := Lib.hid (avail_iff (by rw [HUL.out]; have := HU.out; rwa [HUL.out] at this) hir hLR HNIN.out)
            have huse := use_at HU.out (i := q) (by rw [HUL.out]; exact hlt)
            have hlr : (l < 0 ∨ l < (n : Int)) ∧ (r < 0 ∨ r < (n : Int)) := by
              obtain ⟨p, _, hp, hp1, hp2⟩ := huse
              have e : p = (l, r) := by
                have h1 := hLR
                simp only [Int.toNat_natCast] at h1
                simpa using hp.symm.trans h1
              subst e
              unfold UseOk at hp1 hp2
              rw [HUL.out] at hp1 hp2
              simp only at hp1 hp2
              omega
            obtain ⟨hl2, hr2⟩ := hlr
            have HDL : Hid (0 ≤ l → wr.cell? ⟨gd, l.toNat, none⟩ = some (.bool (decide (l ∈ L)))) := Lib.hid (fun h0 => by
              have := HST.out.done.cell (dnT_get (n := n) (L := L) (k := l.toNat) (by omega))
              rwa [show ((l.toNat : Nat) : Int) = l by omega] at this)
            have HDR : Hid (0 ≤ r → wr.cell? ⟨gd, r.toNat, none⟩ = some (.bool (decide (r ∈ L)))) := Lib.hid (fun h0 => by
              have := HST.out.done.cell (dnT_get (n := n) (L := L) (k := r.toNat) (by omega))
              rwa [show ((r.toNat : Nat) : Int) = r by omega] at this)
            clear hcell hl hr hir hLR huse
            go_wp2
            go_quiet (fail)
            by_cases l0 : l < 0
            · skip
              by_cases r0 : r < 0
              · have HAQ : Hid (Avail (usesC C) L (q : Int)) := Lib.hid (HAV.out.2 ⟨.inl l0, .inl r0⟩)
                have hLlt : L.length < n := by
                  have := (HGR.out.snoc HAQ.out HLE.out).len_le
                  rw [HUL.out] at this
                  simp at this
                  omega
                obtain ⟨i0, hi0, hz0, hz1, hz2⟩ := info_of2 infoI2
                have HI0 := Lib.hid (And.intro hi0 (And.intro hz0 (And.intro hz1 hz2)))
                have HOO : Hid ((((wr.drewN nq).setCell ⟨gd, q, none⟩ (.bool true)).alloc (.cells #[.int .i64 (q : Int)] 3)).ownsRow (gd + 1) 3 1 (.slice Ao L.length co) L.length (L.map (Value.int .i64))) := Lib.hid (by
                  have hlt2 := HST.out.lt
                  refine own_of_block HST.out.row fun g hg => ?_
                  have hg2 := HST.out.row.lt g hg
                  exact (Below.heap_alloc _ _ g (by simp [World.setCell]; exact hg2.2)).trans (Below.heap_setCell _ _ _ _ (by simp; omega)))
                have hr1 := reads_one ((wr.drewN nq).setCell ⟨gd, q, none⟩ (.bool true)) (.int .i64 (q : Int)) 3
                have e9 : ((wr.drewN nq).setCell ⟨gd, q, none⟩ (.bool true)).heap.size = wr.heap.size := by simp [World.setCell]
                rw [e9] at hr1
                have HR1 := Lib.hid hr1
                have hgds := HST.out.lt
                clear hi0 hz0 hz1 hz2 hr1
                go_wp2_with (at_builtin; refine wpList_append_any _ rfl (.tmp 69) (.tmp 71) _ rfl (gd + 1) 3 i0 _ 1 8 Try.underlying22 HI0.out.1 HI0.out.2.1 HI0.out.2.2.1 HI0.out.2.2.2 rfl (by omega) (.slice Ao L.length co) L.length (L.map (Value.int .i64)) rfl HOO.out (wr.heap.size + 1) (some ⟨wr.heap.size, 0, none⟩) 1 1 [.int .i64 (q : Int)] rfl HR1.out (by simp [Value.oneCell']) (by simp only [maxLen]; omega) (by omega) (by simp [World.setCell]; omega) ?_; intro v3 w3 hown3 hg3 hat3; have HS3 := Lib.hid ((HST.out.drewN nq).tell (by omega) (by omega) (by omega) (by omega) (by omega) hlt hg3 (by simpa using hown3)); clear hown3 hg3 hat3)
                go_roundg (n + 1 - (L ++ [(q : Int)]).length)
                case measure => simp; omega
                case rel => exact ⟨L ++ [(q : Int)], true, rfl, HGR.out.snoc HAQ.out HLE.out, fun h => (by cases h), HS3.out, by simp⟩
              · have hdr := HDR.out (by omega)
                have r3 : (0 : Int) ≤ r := by omega
                have r4 : r < (n : Int) := by omega
                by_cases r1 : r ∈ L
                · rw [decide_eq_true r1] at hdr
                  have HAQ : Hid (Avail (usesC C) L (q : Int)) := Lib.hid (HAV.out.2 ⟨.inl l0, .inr r1⟩)
                  have hLlt : L.length < n := by
                    have := (HGR.out.snoc HAQ.out HLE.out).len_le
                    rw [HUL.out] at this
                    simp at this
                    omega
                  obtain ⟨i0, hi0, hz0, hz1, hz2⟩ := info_of2 infoI2
                  have HI0 := Lib.hid (And.intro hi0 (And.intro hz0 (And.intro hz1 hz2)))
                  have HOO : Hid ((((wr.drewN nq).setCell ⟨gd, q, none⟩ (.bool true)).alloc (.cells #[.int .i64 (q : Int)] 3)).ownsRow (gd + 1) 3 1 (.slice Ao L.length co) L.length (L.map (Value.int .i64))) := Lib.hid (by
                    have hlt2 := HST.out.lt
                    refine own_of_block HST.out.row fun g hg => ?_
                    have hg2 := HST.out.row.lt g hg
                    exact (Below.heap_alloc _ _ g (by simp [World.setCell]; exact hg2.2)).trans (Below.heap_setCell _ _ _ _ (by simp; omega)))
                  have hr1 := reads_one ((wr.drewN nq).setCell ⟨gd, q, none⟩ (.bool true)) (.int .i64 (q : Int)) 3
                  have e9 : ((wr.drewN nq).setCell ⟨gd, q, none⟩ (.bool true)).heap.size = wr.heap.size := by simp [World.setCell]
                  rw [e9] at hr1
                  have HR1 := Lib.hid hr1
                  have hgds := HST.out.lt
                  clear hi0 hz0 hz1 hz2 hr1
                  go_wp2_with (at_builtin; refine wpList_append_any _ rfl (.tmp 69) (.tmp 71) _ rfl (gd + 1) 3 i0 _ 1 8 Try.underlying22 HI0.out.1 HI0.out.2.1 HI0.out.2.2.1 HI0.out.2.2.2 rfl (by omega) (.slice Ao L.length co) L.length (L.map (Value.int .i64)) rfl HOO.out (wr.heap.size + 1) (some ⟨wr.heap.size, 0, none⟩) 1 1 [.int .i64 (q : Int)] rfl HR1.out (by simp [Value.oneCell']) (by simp only [maxLen]; omega) (by omega) (by simp [World.setCell]; omega) ?_; intro v3 w3 hown3 hg3 hat3; have HS3 := Lib.hid ((HST.out.drewN nq).tell (by omega) (by omega) (by omega) (by omega) (by omega) hlt hg3 (by simpa using hown3)); clear hown3 hg3 hat3)
                  go_roundg (n + 1 - (L ++ [(q : Int)]).length)
                  case measure => simp; omega
                  case rel => exact ⟨L ++ [(q : Int)], true, rfl, HGR.out.snoc HAQ.out HLE.out, fun h => (by cases h), HS3.out, by simp⟩
                · rw [decide_eq_false r1] at hdr
                  have HNA : Hid (∀ y, Avail (usesC C) L y → ((q + 1 : Nat) : Int) ≤ y) := Lib.hid (fun y hy => by
                    have h1 := HLE.out y hy
                    have h2 : y ≠ (q : Int) := fun e => by
                      have := HAV.out.1 (e ▸ hy)
                      rcases this.2 with h3 | h3 <;> first | omega | exact r1 h3
                    omega)
                  go_wp2
                  go_roundg (n - (q + 1))
                  case measure => omega
                  case rel => exact ⟨q + 1, by omega, by go_num, rfl, rfl, rfl, HNA.out, HST.out.drewN nq⟩
            · have hdl := HDL.out (by omega)
              have l3 : (0 : Int) ≤ l := by omega
              have l4 : l < (n : Int) := by omega
              by_cases l1 : l ∈ L
              · rw [decide_eq_true l1] at hdl
                by_cases r0 : r < 0
                · have HAQ : Hid (Avail (usesC C) L (q : Int)) := Lib.hid (HAV.out.2 ⟨.inr l1, .inl r0⟩)
                  have hLlt : L.length < n := by
                    have := (HGR.out.snoc HAQ.out HLE.out).len_le
                    rw [HUL.out] at this
                    simp at this
                    omega
                  obtain ⟨i0, hi0, hz0, hz1, hz2⟩ := info_of2 infoI2
                  have HI0 := Lib.hid (And.intro hi0 (And.intro hz0 (And.intro hz1 hz2)))
                  have HOO : Hid ((((wr.drewN nq).setCell ⟨gd, q, none⟩ (.bool true)).alloc (.cells #[.int .i64 (q : Int)] 3)).ownsRow (gd + 1) 3 1 (.slice Ao L.length co) L.length (L.map (Value.int .i64))) := Lib.hid (by
                    have hlt2 := HST.out.lt
                    refine own_of_block HST.out.row fun g hg => ?_
                    have hg2 := HST.out.row.lt g hg
                    exact (Below.heap_alloc _ _ g (by simp [World.setCell]; exact hg2.2)).trans (Below.heap_setCell _ _ _ _ (by simp; omega)))
                  have hr1 := reads_one ((wr.drewN nq).setCell ⟨gd, q, none⟩ (.bool true)) (.int .i64 (q : Int)) 3
                  have e9 : ((wr.drewN nq).setCell ⟨gd, q, none⟩ (.bool true)).heap.size = wr.heap.size := by simp [World.setCell]
                  rw [e9] at hr1
                  have HR1 := Lib.hid hr1
                  have hgds := HST.out.lt
                  clear hi0 hz0 hz1 hz2 hr1
                  go_wp2_with (at_builtin; refine wpList_append_any _ rfl (.tmp 69) (.tmp 71) _ rfl (gd + 1) 3 i0 _ 1 8 Try.underlying22 HI0.out.1 HI0.out.2.1 HI0.out.2.2.1 HI0.out.2.2.2 rfl (by omega) (.slice Ao L.length co) L.length (L.map (Value.int .i64)) rfl HOO.out (wr.heap.size + 1) (some ⟨wr.heap.size, 0, none⟩) 1 1 [.int .i64 (q : Int)] rfl HR1.out (by simp [Value.oneCell']) (by simp only [maxLen]; omega) (by omega) (by simp [World.setCell]; omega) ?_; intro v3 w3 hown3 hg3 hat3; have HS3 := Lib.hid ((HST.out.drewN nq).tell (by omega) (by omega) (by omega) (by omega) (by omega) hlt hg3 (by simpa using hown3)); clear hown3 hg3 hat3)
                  go_roundg (n + 1 - (L ++ [(q : Int)]).length)
                  case measure => simp; omega
                  case rel => exact ⟨L ++ [(q : Int)], true, rfl, HGR.out.snoc HAQ.out HLE.out, fun h => (by cases h), HS3.out, by simp⟩
                · have hdr := HDR.out (by omega)
                  have r3 : (0 : Int) ≤ r := by omega
                  have r4 : r < (n : Int) := by omega
                  by_cases r1 : r ∈ L
                  · rw [decide_eq_true r1] at hdr
                    have HAQ : Hid (Avail (usesC C) L (q : Int)) := Lib.hid (HAV.out.2 ⟨.inr l1, .inr r1⟩)
                    have hLlt : L.length < n := by
                      have := (HGR.out.snoc HAQ.out HLE.out).len_le
                      rw [HUL.out] at this
                      simp at this
                      omega
                    obtain ⟨i0, hi0, hz0, hz1, hz2⟩ := info_of2 infoI2
                    have HI0 := Lib.hid (And.intro hi0 (And.intro hz0 (And.intro hz1 hz2)))
                    have HOO : Hid ((((wr.drewN nq).setCell ⟨gd, q, none⟩ (.bool true)).alloc (.cells #[.int .i64 (q : Int)] 3)).ownsRow (gd + 1) 3 1 (.slice Ao L.length co) L.length (L.map (Value.int .i64))) := Lib.hid (by
                      have hlt2 := HST.out.lt
                      refine own_of_block HST.out.row fun g hg => ?_
                      have hg2 := HST.out.row.lt g hg
                      exact (Below.heap_alloc _ _ g (by simp [World.setCell]; exact hg2.2)).trans (Below.heap_setCell _ _ _ _ (by simp; omega)))
                    have hr1 := reads_one ((wr.drewN nq).setCell ⟨gd, q, none⟩ (.bool true)) (.int .i64 (q : Int)) 3
                    have e9 : ((wr.drewN nq).setCell ⟨gd, q, none⟩ (.bool true)).heap.size = wr.heap.size := by simp [World.setCell]
                    rw [e9] at hr1
                    have HR1 := Lib.hid hr1
                    have hgds := HST.out.lt
                    clear hi0 hz0 hz1 hz2 hr1
                    go_wp2_with (at_builtin; refine wpList_append_any _ rfl (.tmp 69) (.tmp 71) _ rfl (gd + 1) 3 i0 _ 1 8 Try.underlying22 HI0.out.1 HI0.out.2.1 HI0.out.2.2.1 HI0.out.2.2.2 rfl (by omega) (.slice Ao L.length co) L.length (L.map (Value.int .i64)) rfl HOO.out (wr.heap.size + 1) (some ⟨wr.heap.size, 0, none⟩) 1 1 [.int .i64 (q : Int)] rfl HR1.out (by simp [Value.oneCell']) (by simp only [maxLen]; omega) (by omega) (by simp [World.setCell]; omega) ?_; intro v3 w3 hown3 hg3 hat3; have HS3 := Lib.hid ((HST.out.drewN nq).tell (by omega) (by omega) (by omega) (by omega) (by omega) hlt hg3 (by simpa using hown3)); clear hown3 hg3 hat3)
                    go_roundg (n + 1 - (L ++ [(q : Int)]).length)
                    case measure => simp; omega
                    case rel => exact ⟨L ++ [(q : Int)], true, rfl, HGR.out.snoc HAQ.out HLE.out, fun h => (by cases h), HS3.out, by simp⟩
                  · rw [decide_eq_false r1] at hdr
                    have HNA : Hid (∀ y, Avail (usesC C) L y → ((q + 1 : Nat) : Int) ≤ y) := Lib.hid (fun y hy => by
                      have h1 := HLE.out y hy
                      have h2 : y ≠ (q : Int) := fun e => by
                        have := HAV.out.1 (e ▸ hy)
                        rcases this.2 with h3 | h3 <;> first | omega | exact r1 h3
                      omega)
                    go_wp2
                    go_roundg (n - (q + 1))
                    case measure => omega
                    case rel => exact ⟨q + 1, by omega, by go_num, rfl, rfl, rfl, HNA.out, HST.out.drewN nq⟩
              · rw [decide_eq_false l1] at hdl
                have HNA : Hid (∀ y, Avail (usesC C) L y → ((q + 1 : Nat) : Int) ≤ y) := Lib.hid (fun y hy => by
                  have h1 := HLE.out y hy
                  have h2 : y ≠ (q : Int) := fun e => by
                    have := HAV.out.1 (e ▸ hy)
                    rcases this.1 with h3 | h3 <;> first | omega | exact l1 h3
                  omega)
                go_wp2
                go_roundg (n - (q + 1))
                case measure => omega
                case rel => exact ⟨q + 1, by omega, by go_num, rfl, rfl, rfl, HNA.out, HST.out.drewN nq⟩
        · have hqe : q = n := by omega
          subst hqe
          have HNA : Hid (∀ y, ¬ Avail (usesC C) L y) := Lib.hid (fun y hy => by
            have h1 := HLE.out y hy
            have h2 := hy.1
            unfold InR at h2
            rw [HUL.out] at h2
            omega)
          go_wp2
          go_roundg 0
          case measure => omega
          case rel => exact ⟨L, false, rfl, HGR.out, fun _ => HNA.out, HST.out, by simp⟩
end Go.Proofs.Ytjakckfmdfpekaa
