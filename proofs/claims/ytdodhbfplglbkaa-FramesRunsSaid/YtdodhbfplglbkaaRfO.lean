/- The document's own Order. -/
import Derived.Test.YtdodhbfplglbkaaCopy
import Derived.Test.YtdodhbfplglbkaaUses
import Derived.Test.YtdodhbfplglbkaaRfA
import Derived.Test.YtdodhbfplglbkaaRight
import Derived.Deep.LoopGhost
import Derived.BigRegion
import Derived.Deep.RegionHeld3
import Derived.Test.YtdodhbfplglbkaaCheck3
import Derived.Deep.DeepCutAuto
import Derived.Deep.CutBlock
import Derived.Test.YtdodhbfplglbkaaRfD
import Derived.Lib.IndexAny
namespace Go.Proofs.Ytdodhbfplglbkaa
open Go.RowKit

section
variable {uses : List (Int × Int)}
/-- Where no gate can be told any more: all have been told just if none comes round. -/
theorem stuck_all (hu : UsesOk uses.length uses) (hn : uses.length ≤ 16384) {L : List Int} (hG : Greedy uses L) (hs : ∀ y, ¬ Avail uses L y) : L.length = uses.length ↔ firstF uses = -1 := by
  constructor
  · intro hl
    refine Classical.byContradiction fun hne => ?_
    obtain ⟨hr, y, he, hp⟩ := firstF_some hu hn hne
    have hperm := greedy_perm hG hl
    have hmem : ∀ x, InR uses.length x → x ∈ L := fun x hx => hperm.mem_iff.2 (mem_intRange.2 hx)
    have pos : ∀ x, InR uses.length x → ∃ k : Nat, L[k]? = some x := fun x hx => List.getElem?_of_mem (hmem x hx)
    have edge_lt : ∀ {x y : Int} {k : Nat}, L[k]? = some x → Edge uses x y → ∃ j : Nat, L[j]? = some y ∧ j < k := fun {x y k} hk hE => by
      have := hG.before k x hk y hE
      obtain ⟨j, hj⟩ := List.getElem?_of_mem this
      rw [List.getElem?_take] at hj
      split at hj
      · rename_i hjk
        exact ⟨j, hj, hjk⟩
      · cases hj
    have path_le : ∀ {a b : Int}, Path uses a b → ∀ k : Nat, L[k]? = some a → ∃ j : Nat, L[j]? = some b ∧ j ≤ k := fun hp => by
      induction hp with
      | refl => intro k hk; exact ⟨k, hk, Nat.le_refl _⟩
      | step e _ ih =>
        intro k hk
        obtain ⟨j, hj, hjk⟩ := edge_lt hk e
        obtain ⟨i, hi, hij⟩ := ih j hj
        exact ⟨i, hi, by omega⟩
    obtain ⟨k, hk⟩ := pos _ hr
    obtain ⟨j, hj, hjk⟩ := edge_lt hk he
    obtain ⟨i, hi, hij⟩ := path_le hp j hj
    have := nodup_get hG.nodup hk hi
    omega
  · intro hf
    refine Classical.byContradiction fun hne => ?_
    have hle := hG.len_le
    obtain ⟨y0, hy0r, hy0⟩ := some_left (L := L) (n := uses.length) (by omega)
    obtain ⟨y, ⟨hyr, hyn⟩, hmin⟩ := least_rank (rank uses) (P := fun y => InR uses.length y ∧ y ∉ L) (rank uses y0) y0 (Nat.le_refl _) ⟨hy0r, hy0⟩
    refine hs y ⟨hyr, hyn, fun z hE => ?_⟩
    refine Classical.byContradiction fun hz => ?_
    have h1 := rank_lt hu hn hf hyr hE
    have h2 := hmin z ⟨edge_in hu hyr hE, hz⟩
    omega
/-- May a gate be told? -/
theorem avail_iff (hu : UsesOk uses.length uses) {L : List Int} {i l r : Int} (hi : InR uses.length i) (hLR : uses.getD i.toNat (-1, -1) = (l, r)) (hn : i ∉ L) : Avail uses L i ↔ ((l < 0 ∨ l ∈ L) ∧ (r < 0 ∨ r ∈ L)) := by
  obtain ⟨p, hp0, hp, hp1, hp2⟩ := use_at hu (i := i.toNat) (by unfold InR at hi; omega)
  constructor
  · rintro ⟨_, _, h⟩
    have key : ∀ u : Int, (u = l ∨ u = r) → u < 0 ∨ u ∈ L := fun u hu' => by
      by_cases hneg : u < 0
      · exact .inl hneg
      · exact .inr (h u ⟨by omega, by rw [hLR]; rcases hu' with rfl | rfl; exact .inl rfl; exact .inr rfl⟩)
    exact ⟨key l (.inl rfl), key r (.inr rfl)⟩
  · rintro ⟨h1, h2⟩
    refine ⟨hi, hn, fun z hE => ?_⟩
    obtain ⟨hz, hE⟩ := hE
    have hzin := edge_in hu hi ⟨hz, hE⟩
    rw [hLR] at hE
    unfold InR at hzin
    rcases hE with rfl | rfl
    · exact h1.resolve_left (by omega)
    · exact h2.resolve_left (by omega)
/-- The search from one gate: what is listed can be reached, and what is listed leads to what is listed. -/
theorem round_yes {a x : Int} (hp : Path uses a x) (hE : Edge uses x a) : Cyc uses a := by
  cases hp with
  | refl => exact ⟨a, hE, .refl a⟩
  | step e p => exact ⟨_, e, p.trans (Path.one hE)⟩
theorem round_no {a : Int} {L : List Int} (ha : a ∈ L) (hc : ∀ x ∈ L, ∀ y, Edge uses x y → y ∈ L ∧ y ≠ a) : ¬ Cyc uses a := by
  rintro ⟨y, he, hp⟩
  have key : ∀ {s t : Int}, Path uses s t → s ∈ L → s ≠ a → t ≠ a := fun hp => by
    induction hp with
    | refl => exact fun _ h => h
    | step e _ ih => intro hs _; have := hc _ hs _ e; exact ih this.1 this.2
  have h1 := hc a ha y he
  exact key hp h1.1 h1.2 rfl
end
end Go.Proofs.Ytdodhbfplglbkaa

namespace Go.Proofs.Ytdodhbfplglbkaa
open Go.RowKit

set_option maxHeartbeats 4000000 in
set_option maxRecDepth 100000 in
theorem rgates_any (w : World) (V : CV) (C : Circ) (h : C.In w V) (hm0 : 0 ≤ C.max) (hm : C.max ≤ 16384) (hal : C.ands.length ≤ 16384) (hfit : ∀ z ∈ C.ands, FitT C.max z) :
    Calls Try.prog 98 #[V.val C.max] w fun e w' => ∃ g, e = .returned (.slice (some ⟨g, 0, none⟩) (C.max.toNat + 1) (C.max.toNat + 1)) ∧ w.heap.size ≤ g ∧ Below w.heap.size w w' ∧ Nums w' g (gateOf C) := by
  obtain ⟨m, hmm⟩ : ∃ m : Nat, C.max = (m : Int) := ⟨C.max.toNat, by omega⟩
  have hmt : C.max.toNat = m := by rw [hmm]; rfl
  rw [hmt]
  rw [hmm] at hm hfit ⊢
  clear hmt
  have hgo : gateOf C = gateF C.ands 0 (List.replicate (m + 1) (-1)) := by unfold gateOf; rw [hmm]; rfl
  have HGO := Lib.hid hgo
  clear hgo hm0
  have HB0 := Lib.hid (Below.refl w.heap.size w)
  have hmk := make_ints (m + 1) (by omega)
  push_cast at hmk
  have HM : Hid (Mid2 w ((w.alloc (.cells (V.cells m) 29)).alloc (.cells (madeCells #[Value.int .i64 0] (m + 1)) 3)) w.heap.size (w.heap.size + 1) (V.cells m) (List.replicate 0 (-1) ++ List.replicate (m + 1 - 0) 0)) := by
    refine Lib.hid ⟨(HB0.out.alloc (Nat.le_refl _) _).alloc (by simp) _, (Blk.new _ _ _).alloc _, ?_⟩
    have := new_ints (w.alloc (.cells (V.cells m) 29)) (m + 1)
    simpa using this
  obtain ⟨AA, cA, eA, _, _, hA⟩ := h.a
  obtain ⟨Vi, Vl, Vo, Vb, Vc, Vj, Vf, Va, Vs, Vt⟩ := V
  simp only at eA
  subst eA
  have HA := Lib.hid hA
  have HFIT := Lib.hid hfit
  clear hA h hfit hmm
  generalize hn : C.ands.length = n at *
  have HN := Lib.hid hn
  clear hn
  go_enter Try.func98, Try.ntmps98
  go_wp2
  go_loopw [4] (fun i wr => ∃ k : Nat, k ≤ m + 1 ∧ i = .int .i64 k ∧ Mid2 w wr w.heap.size (w.heap.size + 1) _ (List.replicate k (-1) ++ List.replicate (m + 1 - k) 0)) (fun i _ => m + 1 - (intOf i).toNat)
  case atStart => exact ⟨0, Nat.zero_le _, rfl, HM.out⟩
  case round =>
    obtain ⟨k, hk, rfl, hmid⟩ := hrel
    have HMM := Lib.hid hmid
    clear hmid
    obtain ⟨c0, c1, c2, c3, c4, c5, c6, c7, c8, c9, c10⟩ := rbox_of HMM.out.box
    by_cases hlt : k < m + 1
    · have hle : (k : Int) ≤ (m : Int) := by omega
      have hcell := HMM.out.nums.cell (fill_get hlt)
      have hfr := Blk.frozen HMM.out.nums k
      go_wp2
      go_roundw
      case rel =>
        have := HMM.out.set_ (by omega) (by omega) k (-1)
        rw [fill_set hlt] at this
        exact ⟨k + 1, by omega, by go_num, this⟩
      case measure => simp [intOf]; omega
    · have : k = m + 1 := by omega
      subst this
      have hle : ¬ ((m + 1 : Nat) : Int) ≤ (m : Int) := by omega
      have hm1 := HMM.out
      simp only [Nat.sub_self, List.replicate_zero, List.append_nil] at hm1
      have HM1 := Lib.hid hm1
      clear hm1
      clear HMM HM
      go_wp2
      clear c0 c1 c2 c3 c4 c5 c6 c7 c8 c9 c10
      go_loopw [5] (fun i wr => ∃ (k : Nat) (G : List Int), k ≤ n ∧ i = .int .i64 k ∧ G.length = m + 1 ∧ gateF C.ands 0 (List.replicate (m + 1) (-1)) = gateF (C.ands.drop k) k G ∧ Mid2 w wr w.heap.size (w.heap.size + 1) _ G) (fun i _ => n - (intOf i).toNat)
      case atStart => exact ⟨0, _, Nat.zero_le _, rfl, by simp, rfl, HM1.out⟩
      case round =>
        obtain ⟨k, G, hk, rfl, hgl, hall, hmid⟩ := hrel
        have HMM := Lib.hid hmid
        have HAL := Lib.hid hall
        have HGL := Lib.hid hgl
        clear hmid hall hgl
        obtain ⟨c0, c1, c2, c3, c4, c5, c6, c7, c8, c9, c10⟩ := rbox_of HMM.out.box
        by_cases hlt : k < n
        · have hx := List.getElem?_eq_getElem (l := C.ands) (i := k) (by rw [HN.out]; exact hlt)
          generalize C.ands[k]'(by rw [HN.out]; exact hlt) = x at hx
          obtain ⟨b, off, rfl, hb, hcell⟩ := HA.out k x hx
          have HX := Lib.hid hx
          have hxo := HFIT.out x (List.mem_of_getElem? HX.out)
          clear hx
          obtain ⟨x0, x1, x2⟩ := x
          have h0 := (HMM.out.below.cell (p := ⟨b, off + (k * 3 + 0), none⟩) hb).trans (hcell 0 _ rfl)
          have h1 := (HMM.out.below.cell (p := ⟨b, off + (k * 3 + 1), none⟩) hb).trans (hcell 1 _ rfl)
          have h2 := (HMM.out.below.cell (p := ⟨b, off + (k * 3 + 2), none⟩) hb).trans (hcell 2 _ rfl)
          simp only [Nat.add_zero, ← Nat.add_assoc] at h0 h1 h2
          clear hcell
          obtain ⟨⟨a1, a2⟩, _, _⟩ := hxo
          simp only at a1 a2
          have hq := tdiv_nn (b := 2) a1
          have hq0 : 0 ≤ x0 / 2 := by omega
          have hq1 : x0 / 2 < (m : Int) + 1 := by omega
          have hq2 : (x0 / 2).toNat < G.length := by rw [HGL.out]; omega
          obtain ⟨gv, hgv⟩ : ∃ x, G[(x0 / 2).toNat]? = some x := ⟨_, List.getElem?_eq_getElem hq2⟩
          have hg := HMM.out.nums.cell hgv
          have hfr := Blk.frozen HMM.out.nums (x0 / 2).toNat
          have hk0 : (0 : Int) ≤ (k : Int) := by omega
          have hk1 : (k : Int) < (n : Int) := by omega
          have hgl := Blk.lt HMM.out.nums
          clear hq2 hgv
          go_wp2
          go_roundw
          case rel => exact ⟨k + 1, _, by omega, by go_num, by rw [List.length_set]; exact HGL.out, by rw [HAL.out]; exact gateF_step HX.out, HMM.out.set_ (by omega) (by omega) _ _⟩
          case measure => simp [intOf]; omega
        · have : k = n := by omega
          subst this
          have HG : Hid (gateOf C = G) := Lib.hid (HGO.out.trans (HAL.out.trans (gateF_end (by rw [HN.out]; exact Nat.le_refl _))))
          clear HAL HM1
          go_wp2
          go_ret
          exact ⟨_, rfl, by omega, HMM.out.below, by rw [HG.out]; exact HMM.out.nums⟩
end Go.Proofs.Ytdodhbfplglbkaa

namespace Go.Proofs.Ytdodhbfplglbkaa
open Go.RowKit

/-- The gates that are told, as a table. -/
def dnT (n : Nat) (L : List Int) : List Bool := (List.range n).map (fun (k : Nat) => decide ((k : Int) ∈ L))
theorem dnT_len (n : Nat) (L : List Int) : (dnT n L).length = n := by simp [dnT]
theorem dnT_get {n k : Nat} {L : List Int} (hk : k < n) : (dnT n L)[k]? = some (decide ((k : Int) ∈ L)) := by simp [dnT, hk]
theorem dnT_nil (n : Nat) : dnT n [] = List.replicate n false := by
  apply List.ext_getElem?
  intro i
  by_cases h : i < n
  · rw [dnT_get h]; simp [h]
  · rw [List.getElem?_eq_none (by rw [dnT_len]; omega), List.getElem?_eq_none (by simp; omega)]
theorem dnT_snoc {n k : Nat} {L : List Int} (hk : k < n) : (dnT n L).set k true = dnT n (L ++ [(k : Int)]) := by
  apply List.ext_getElem?
  intro i
  by_cases h : i < n
  · rw [dnT_get h, List.getElem?_set]
    by_cases e : k = i
    · subst e
      simp [dnT_len, hk]
    · rw [if_neg e, dnT_get h]
      have : ¬ (i : Int) = (k : Int) := by omega
      simp [this]
  · rw [List.getElem?_eq_none (by rw [List.length_set, dnT_len]; omega), List.getElem?_eq_none (by rw [dnT_len]; omega)]
/-- What memory holds while gates are told. -/
structure ToldS (w0 w : World) (b gg gd : Nat) (cs : Array Value) (G : List Int) (n : Nat) (v : Value) (L : List Int) : Prop where
  below : Below w0.heap.size w0 w
  box : Blk w b 29 cs
  nums : Nums w gg G
  done : Tab w gd (dnT n L)
  row : w.ownsRow (gd + 1) 3 1 v L.length (L.map (Value.int .i64))
section
variable {w0 w : World} {b gg gd : Nat} {cs : Array Value} {G : List Int} {n : Nat} {v : Value} {L : List Int}
theorem ToldS.drewN (h : ToldS w0 w b gg gd cs G n v L) (k : Nat) : ToldS w0 (w.drewN k) b gg gd cs G n v L := ⟨below_drewN h.below k, h.box.drewN k, Blk.drewN h.nums k, Blk.drewN h.done k, own_of_block h.row fun _ _ => rfl⟩
theorem ToldS.lt (h : ToldS w0 w b gg gd cs G n v L) : gd < w.heap.size := Blk.lt h.done
theorem ToldS.tell (h : ToldS w0 w b gg gd cs G n v L) (h1 : w0.heap.size ≤ gd) (_h2 : b ≠ gd) (_h3 : gg ≠ gd) (hb : b < gd) (hg : gg < gd) {i : Nat} (hi : i < n) {o : Obj} {v' : Value} {w' : World}
    (hgr : ((w.setCell ⟨gd, i, none⟩ (.bool true)).alloc o).grownBy w' v.ownBlock) (ho : w'.ownsRow (gd + 1) 3 1 v' (L.length + 1) ((L ++ [(i : Int)]).map (Value.int .i64))) :
    ToldS w0 w' b gg gd cs G n v' (L ++ [(i : Int)]) := by
  have hlt := h.lt
  have hrow : ∀ k, k ≤ gd → some k ≠ v.ownBlock := fun k hk e => by
    have := (h.row.lt k e.symm).1
    omega
  have hsz : ((w.setCell ⟨gd, i, none⟩ (.bool true)).alloc o).heap.size = w.heap.size + 1 := by simp [World.setCell]
  have hbl : ∀ k, k ≤ gd → w'.heap[k]? = (w.setCell ⟨gd, i, none⟩ (.bool true)).heap[k]? := fun k hk =>
    (hgr.block k (by omega) (hrow k hk)).trans (Below.heap_alloc _ o k (by simp [World.setCell]; omega))
  have hfar : ∀ k, k < gd → w'.heap[k]? = w.heap[k]? := fun k hk => (hbl k (by omega)).trans (Below.heap_setCell _ _ _ _ (by simp; omega))
  refine ⟨h.below.trans ⟨hgr.os, hgr.tape, hgr.output, by have := hgr.size; omega, fun k hk => hfar k (by omega)⟩, (hfar _ hb).trans h.box, (hfar _ hg).trans h.nums, ?_, by simpa using ho⟩
  have := (Tab.set_ h.done i true)
  rw [dnT_snoc hi] at this
  exact (hbl gd (Nat.le_refl _)).trans this
end
theorem make_boolsR (n : Nat) (h : n ≤ 281474976710656) (wx : World) : (Instr.makeSlice 55 (.int .i64 (n : Int)) (.int .i64 (n : Int))).run Try.prog wx = .ok (.slice (some ⟨wx.heap.size, 0, none⟩) n n) (wx.alloc (.cells (madeCells #[Value.bool false] n) 4)) := by
  obtain ⟨i0, hi0, hz0, hz1, hz2⟩ := info_of bool_info
  have := run_make (P := Try.prog) wx 55 4 i0 (.bool false) Try.underlying55 hi0 hz0 .i64 .i64 n n (by omega) (by omega) (by rw [hz2]; omega) (by omega)
  rw [hz1] at this
  simpa [Value.cells] using this
theorem gateOf_lenR (C : Circ) : (gateOf C).length = C.max.toNat + 1 := by unfold gateOf; rw [gateF_len]; simp
theorem gate_use {C : Circ} {k : Nat} {z : Tri} (hz : C.ands[k]? = some z) {l r : Int} (hl : (gateOf C).getD (z.2.1 / 2).toNat 0 = l) (hr : (gateOf C).getD (z.2.2 / 2).toNat 0 = r) : (usesC C).getD ((k : Int)).toNat (-1, -1) = (l, r) := by
  simp [usesC, List.getD, hz, useOf] at *
  exact ⟨hl, hr⟩

set_option maxHeartbeats 20000000 in
set_option maxRecDepth 100000 in
theorem rtold_any (w : World) (V : CV) (C : Circ) (h : C.In w V) (hm0 : 0 ≤ C.max) (hm1 : C.max ≤ 16384) (hna : C.ands.length ≤ 16384) (hfit : ∀ z ∈ C.ands, FitT C.max z) :
    Calls Try.prog 97 #[V.val C.max] w fun e w' => ∃ v L, e = .returned v ∧ w'.ownsRow w.heap.size 3 1 v L.length (L.map (Value.int .i64)) ∧ Greedy (usesC C) L ∧ (∀ y, ¬ Avail (usesC C) L y) ∧ Below w.heap.size w w' := by
  have HU := Lib.hid (usesC_ok hm0 hfit)
  obtain ⟨W0, hW0⟩ : ∃ W0, W0 = w.alloc (.cells (V.cells C.max) 29) := ⟨_, rfl⟩
  have HB0 : Hid (Below w.heap.size w W0) := Lib.hid (by rw [hW0]; exact (Below.refl w.heap.size w).alloc (Nat.le_refl _) _)
  have hbx : Blk W0 w.heap.size 29 (V.cells C.max) := by rw [hW0]; exact Blk.new w _ _
  have HGA := Lib.hid (rgates_any W0 V C (h.below HB0.out) hm0 hm1 hna hfit)
  have hG := gateOf_lenR C
  obtain ⟨G, hGe⟩ : ∃ G, gateOf C = G := ⟨_, rfl⟩
  have HGE := Lib.hid hGe
  rw [hGe] at hG HGA
  have hsz0 : W0.heap.size = w.heap.size + 1 := by rw [hW0]; simp
  obtain ⟨m, hmm⟩ : ∃ m : Nat, C.max = (m : Int) := ⟨C.max.toNat, by omega⟩
  rw [hmm] at HGA hbx hW0 hG hfit ⊢
  have hmt : ((m : Int)).toNat = m := by omega
  rw [hmt] at HGA hG
  have HFIT := Lib.hid hfit
  have HG := Lib.hid hG
  have HBX := Lib.hid hbx
  have HW0 := Lib.hid hW0
  have HSZ := Lib.hid hsz0
  obtain ⟨AA, cA, eA, _, _, hA⟩ := h.a
  have HA := Lib.hid hA
  obtain ⟨Vi, Vl, Vo, Vb, Vc, Vj, Vf, Va, Vs, Vt⟩ := V
  simp only at eA
  subst eA
  have hUL := usesC_len C
  generalize hn : C.ands.length = n at *
  have hmk := make_boolsR n (by omega)
  have HN := Lib.hid hn
  have HUL := Lib.hid hUL
  have hm2 : m ≤ 16384 := by omega
  clear hn hUL h hA hfit hG hGe hbx hW0 hsz0 hmm hmt hm0 hm1
  obtain ⟨c0, c1, c2, c3, c4, c5, c6, c7, c8, c9, c10⟩ := rbox_of HBX.out
  rw [HW0.out] at c0 c1 c2 c3 c4 c5 c6 c7 c8 c9 c10
  go_enter Try.func97, Try.ntmps97
  go_wp2_with (go_at_call 98; rw [HW0.out] at HGA; refine HGA.out.mono ?_; rw [← HW0.out]; rintro e w1 ⟨gg, rfl, hgg, hb1, hn1⟩; have HGG := Lib.hid hgg; have HB1 := Lib.hid hb1; have HN1 := Lib.hid hn1; clear hgg hb1 hn1 c0 c1 c2 c3 c4 c5 c6 c7 c8 c9 c10; obtain ⟨c0, c1, c2, c3, c4, c5, c6, c7, c8, c9, c10⟩ := rbox_of (HBX.out.below HB1.out HBX.out.lt))
  have hgl := Blk.lt HN1.out
  have hge := HGG.out
  rw [HSZ.out] at hge
  have HT0 : Hid (ToldS w (w1.alloc (.cells (madeCells #[Value.bool false] n) 4)) w.heap.size gg w1.heap.size #[.int .i64 m, Vi, Vl, Vo, Vb, Vc, Vj, Vf, .slice AA n cA, Vs, Vt] G n (.slice none 0 0) []) := Lib.hid (by
    refine ⟨(bt HB0.out (Nat.le_refl _) ?_), (HBX.out.below HB1.out HBX.out.lt).alloc _, Blk.alloc HN1.out _, ?_, ⟨rfl, .inl ⟨rfl, rfl⟩⟩⟩
    · exact HB1.out.alloc HB1.out.size _
    · rw [dnT_nil]
      unfold Tab
      rw [made_falses]
      exact Blk.new _ _ _)
  have hw1w : w.heap.size < w1.heap.size := by omega
  generalize hgd : w1.heap.size = gd at *
  clear c0 c1 c2 c3 c4 c5 c6 c7 c8 c9 c10 HB1 HN1 HGG HGA hgd
  go_loopg [5, 6] (n + 1) (fun k o ag wr => ∃ (L : List Int) (again : Bool), ag = .bool again ∧ Greedy (usesC C) L ∧ (again = false → ∀ y, ¬ Avail (usesC C) L y) ∧ ToldS w wr w.heap.size gg gd #[.int .i64 m, Vi, Vl, Vo, Vb, Vc, Vj, Vf, .slice AA n cA, Vs, Vt] G n o L ∧ k = (if again then n + 1 - L.length else 0))
  case atStart => exact ⟨[], true, rfl, .nil, fun h => (by cases h), HT0.out, by simp⟩
  case round =>
    obtain ⟨L, again, rfl, hgr, hno, hst, hgk⟩ := hrel
    have HGR := Lib.hid hgr
    have HNO := Lib.hid hno
    have HST := Lib.hid hst
    have hLl : L.length ≤ n := by have := hgr.len_le; rwa [HUL.out] at this
    clear hgr hno hst
    cases again
    · simp only [Bool.false_eq_true, if_false] at hgk
      go_wp2
      go_ret
      exact ⟨_, rfl, L, own_base HST.out.row (by omega), HGR.out, HNO.out (by first | trivial | rfl), HST.out.below⟩
    · simp only [if_true] at hgk
      subst hgk
      obtain ⟨Ao, co, rfl⟩ := own_slice HST.out.row
      go_wp2
      have HIN0 : Hid (∀ y, Avail (usesC C) L y → (0 : Int) ≤ y) := Lib.hid (fun y hy => hy.1.1)
      go_loopg [5, 6, 7] n (fun j o ag i wx => ∃ q : Nat, q ≤ n ∧ i = .int .i64 q ∧ o = .slice Ao L.length co ∧ ag = .bool false ∧ j = n - q ∧ (∀ y, Avail (usesC C) L y → (q : Int) ≤ y) ∧ ToldS w wx w.heap.size gg gd #[.int .i64 m, Vi, Vl, Vo, Vb, Vc, Vj, Vf, .slice AA n cA, Vs, Vt] G n (.slice Ao L.length co) L)
      case atStart => exact ⟨0, Nat.zero_le _, rfl, rfl, rfl, by simp, HIN0.out, HST.out⟩
      case round =>
        obtain ⟨q, hq, rfl, rfl, rfl, hjk, hle, hst⟩ := hrel
        subst hjk
        have HLE := Lib.hid hle
        clear HST
        have HST := Lib.hid hst
        clear hle hst
        obtain ⟨c0, c1, c2, c3, c4, c5, c6, c7, c8, c9, c10⟩ := rbox_of HST.out.box
        by_cases hlt : q < n
        · have hd := HST.out.done.cell (dnT_get hlt)
          have hfd := Blk.frozen HST.out.done q
          have hk0 : (0 : Int) ≤ (q : Int) := by omega
          have hk1 : (q : Int) < (n : Int) := by omega
          by_cases hin : (q : Int) ∈ L
          · rw [decide_eq_true hin] at hd
            have HNA : Hid (∀ y, Avail (usesC C) L y → ((q + 1 : Nat) : Int) ≤ y) := Lib.hid (fun y hy => by
              have h1 := HLE.out y hy
              have h2 : y ≠ (q : Int) := fun e => hy.2.1 (e ▸ hin)
              omega)
            clear hin
            go_wp2
            go_roundg (n - (q + 1))
            case measure => omega
            case rel => exact ⟨q + 1, by omega, by go_num, rfl, rfl, rfl, HNA.out, HST.out⟩
          · rw [decide_eq_false hin] at hd
            have HNIN := Lib.hid hin
            clear hin
            obtain ⟨z, hz⟩ : ∃ z, C.ands[q]? = some z := ⟨_, List.getElem?_eq_getElem (by rw [HN.out]; exact hlt)⟩
            obtain ⟨b, off, rfl, hb, hcell⟩ := HA.out q z hz
            have hzo := HFIT.out z (List.mem_of_getElem? hz)
            have HZ := Lib.hid hz
            clear hz
            obtain ⟨x0, x1, x2⟩ := z
            have i1 := (HST.out.below.cell (p := ⟨b, off + (q * 3 + 1), none⟩) hb).trans (hcell 1 _ rfl)
            have i2 := (HST.out.below.cell (p := ⟨b, off + (q * 3 + 2), none⟩) hb).trans (hcell 2 _ rfl)
            simp only [← Nat.add_assoc] at i1 i2
            obtain ⟨_, ⟨a1, a2⟩, ⟨b1, b2⟩⟩ := hzo
            simp only at a1 a2 b1 b2
            have q1 := tdiv_nn (b := 2) a1
            have q2 := tdiv_nn (b := 2) b1
            have z1 : 0 ≤ x1 / 2 := by omega
            have z2 : x1 / 2 < ((m + 1 : Nat) : Int) := by omega
            have z3 : 0 ≤ x2 / 2 := by omega
            have z4 : x2 / 2 < ((m + 1 : Nat) : Int) := by omega
            have z5 : IntKind.i64.wrap (x1 / 2) = x1 / 2 := i64_small (by omega) (by omega)
            have z6 : IntKind.i64.wrap (x2 / 2) = x2 / 2 := i64_small (by omega) (by omega)
            have z7 : x1 / 2 < (m : Int) + 1 := by omega
            have z8 : x2 / 2 < (m : Int) + 1 := by omega
            obtain ⟨l, hl⟩ : ∃ l, G[(x1 / 2).toNat]? = some l := ⟨_, List.getElem?_eq_getElem (by rw [HG.out]; omega)⟩
            obtain ⟨r, hr⟩ : ∃ r, G[(x2 / 2).toNat]? = some r := ⟨_, List.getElem?_eq_getElem (by rw [HG.out]; omega)⟩
            have n1 := HST.out.nums.cell hl
            have n2 := HST.out.nums.cell hr
            have hir : InR (usesC C).length (q : Int) := by unfold InR; rw [HUL.out]; omega
            have hLR := gate_use HZ.out (l := l) (r := r) (by rw [HGE.out]; simp [List.getD, hl]) (by rw [HGE.out]; simp [List.getD, hr])
            have HAV : Hid (Avail (usesC C) L (q : Int) ↔ ((l < 0 ∨ l ∈ L) ∧ (r < 0 ∨ r ∈ L))) := Lib.hid (avail_iff (by rw [HUL.out]; have := HU.out; rwa [HUL.out] at this) hir hLR HNIN.out)
            have huse := use_at HU.out (i := q) (by rw [HUL.out]; exact hlt)
            have hlr : (l < 0 ∨ l < (n : Int)) ∧ (r < 0 ∨ r < (n : Int)) := by
              obtain ⟨p, _, hp, hp1, hp2⟩ := huse
              have e : p = (l, r) := by
                have h1 := hLR
                simp only [Int.toNat_natCast] at h1
                simpa using hp.symm.trans h1
              subst e
              unfold UseOk at hp1 hp2
              rw [HUL.out] at hp1 hp2
              simp only at hp1 hp2
              omega
            obtain ⟨hl2, hr2⟩ := hlr
            have HDL : Hid (0 ≤ l → wr.cell? ⟨gd, l.toNat, none⟩ = some (.bool (decide (l ∈ L)))) := Lib.hid (fun h0 => by
              have := HST.out.done.cell (dnT_get (n := n) (L := L) (k := l.toNat) (by omega))
              rwa [show ((l.toNat : Nat) : Int) = l by omega] at this)
            have HDR : Hid (0 ≤ r → wr.cell? ⟨gd, r.toNat, none⟩ = some (.bool (decide (r ∈ L)))) := Lib.hid (fun h0 => by
              have := HST.out.done.cell (dnT_get (n := n) (L := L) (k := r.toNat) (by omega))
              rwa [show ((r.toNat : Nat) : Int) = r by omega] at this)
            clear hcell hl hr hir hLR huse
            go_wp2
            go_quiet (fail)
            by_cases l0 : l < 0
            · skip
              by_cases r0 : r < 0
              · have HAQ : Hid (Avail (usesC C) L (q : Int)) := Lib.hid (HAV.out.2 ⟨.inl l0, .inl r0⟩)
                have hLlt : L.length < n := by
                  have := (HGR.out.snoc HAQ.out HLE.out).len_le
                  rw [HUL.out] at this
                  simp at this
                  omega
                obtain ⟨i0, hi0, hz0, hz1, hz2⟩ := info_of2 infoI2
                have HI0 := Lib.hid (And.intro hi0 (And.intro hz0 (And.intro hz1 hz2)))
                have HOO : Hid ((((wr.drewN nq).setCell ⟨gd, q, none⟩ (.bool true)).alloc (.cells #[.int .i64 (q : Int)] 3)).ownsRow (gd + 1) 3 1 (.slice Ao L.length co) L.length (L.map (Value.int .i64))) := Lib.hid (by
                  have hlt2 := HST.out.lt
                  refine own_of_block HST.out.row fun g hg => ?_
                  have hg2 := HST.out.row.lt g hg
                  exact (Below.heap_alloc _ _ g (by simp [World.setCell]; exact hg2.2)).trans (Below.heap_setCell _ _ _ _ (by simp; omega)))
                have hr1 := reads_one ((wr.drewN nq).setCell ⟨gd, q, none⟩ (.bool true)) (.int .i64 (q : Int)) 3
                have e9 : ((wr.drewN nq).setCell ⟨gd, q, none⟩ (.bool true)).heap.size = wr.heap.size := by simp [World.setCell]
                rw [e9] at hr1
                have HR1 := Lib.hid hr1
                have hgds := HST.out.lt
                clear hi0 hz0 hz1 hz2 hr1
                go_wp2_with (at_builtin; refine wpList_append_any _ rfl (.tmp 69) (.tmp 71) _ rfl (gd + 1) 3 i0 _ 1 8 Try.underlying22 HI0.out.1 HI0.out.2.1 HI0.out.2.2.1 HI0.out.2.2.2 rfl (by omega) (.slice Ao L.length co) L.length (L.map (Value.int .i64)) rfl HOO.out (wr.heap.size + 1) (some ⟨wr.heap.size, 0, none⟩) 1 1 [.int .i64 (q : Int)] rfl HR1.out (by simp [Value.oneCell']) (by simp only [maxLen]; omega) (by omega) (by simp [World.setCell]; omega) ?_; intro v3 w3 hown3 hg3 hat3; have HS3 := Lib.hid ((HST.out.drewN nq).tell (by omega) (by omega) (by omega) (by omega) (by omega) hlt hg3 (by simpa using hown3)); clear hown3 hg3 hat3)
                go_roundg (n + 1 - (L ++ [(q : Int)]).length)
                case measure => simp; omega
                case rel => exact ⟨L ++ [(q : Int)], true, rfl, HGR.out.snoc HAQ.out HLE.out, fun h => (by cases h), HS3.out, by simp⟩
              · have hdr := HDR.out (by omega)
                have r3 : (0 : Int) ≤ r := by omega
                have r4 : r < (n : Int) := by omega
                by_cases r1 : r ∈ L
                · rw [decide_eq_true r1] at hdr
                  have HAQ : Hid (Avail (usesC C) L (q : Int)) := Lib.hid (HAV.out.2 ⟨.inl l0, .inr r1⟩)
                  have hLlt : L.length < n := by
                    have := (HGR.out.snoc HAQ.out HLE.out).len_le
                    rw [HUL.out] at this
                    simp at this
                    omega
                  obtain ⟨i0, hi0, hz0, hz1, hz2⟩ := info_of2 infoI2
                  have HI0 := Lib.hid (And.intro hi0 (And.intro hz0 (And.intro hz1 hz2)))
                  have HOO : Hid ((((wr.drewN nq).setCell ⟨gd, q, none⟩ (.bool true)).alloc (.cells #[.int .i64 (q : Int)] 3)).ownsRow (gd + 1) 3 1 (.slice Ao L.length co) L.length (L.map (Value.int .i64))) := Lib.hid (by
                    have hlt2 := HST.out.lt
                    refine own_of_block HST.out.row fun g hg => ?_
                    have hg2 := HST.out.row.lt g hg
                    exact (Below.heap_alloc _ _ g (by simp [World.setCell]; exact hg2.2)).trans (Below.heap_setCell _ _ _ _ (by simp; omega)))
                  have hr1 := reads_one ((wr.drewN nq).setCell ⟨gd, q, none⟩ (.bool true)) (.int .i64 (q : Int)) 3
                  have e9 : ((wr.drewN nq).setCell ⟨gd, q, none⟩ (.bool true)).heap.size = wr.heap.size := by simp [World.setCell]
                  rw [e9] at hr1
                  have HR1 := Lib.hid hr1
                  have hgds := HST.out.lt
                  clear hi0 hz0 hz1 hz2 hr1
                  go_wp2_with (at_builtin; refine wpList_append_any _ rfl (.tmp 69) (.tmp 71) _ rfl (gd + 1) 3 i0 _ 1 8 Try.underlying22 HI0.out.1 HI0.out.2.1 HI0.out.2.2.1 HI0.out.2.2.2 rfl (by omega) (.slice Ao L.length co) L.length (L.map (Value.int .i64)) rfl HOO.out (wr.heap.size + 1) (some ⟨wr.heap.size, 0, none⟩) 1 1 [.int .i64 (q : Int)] rfl HR1.out (by simp [Value.oneCell']) (by simp only [maxLen]; omega) (by omega) (by simp [World.setCell]; omega) ?_; intro v3 w3 hown3 hg3 hat3; have HS3 := Lib.hid ((HST.out.drewN nq).tell (by omega) (by omega) (by omega) (by omega) (by omega) hlt hg3 (by simpa using hown3)); clear hown3 hg3 hat3)
                  go_roundg (n + 1 - (L ++ [(q : Int)]).length)
                  case measure => simp; omega
                  case rel => exact ⟨L ++ [(q : Int)], true, rfl, HGR.out.snoc HAQ.out HLE.out, fun h => (by cases h), HS3.out, by simp⟩
                · rw [decide_eq_false r1] at hdr
                  have HNA : Hid (∀ y, Avail (usesC C) L y → ((q + 1 : Nat) : Int) ≤ y) := Lib.hid (fun y hy => by
                    have h1 := HLE.out y hy
                    have h2 : y ≠ (q : Int) := fun e => by
                      have := HAV.out.1 (e ▸ hy)
                      rcases this.2 with h3 | h3 <;> first | omega | exact r1 h3
                    omega)
                  go_wp2
                  go_roundg (n - (q + 1))
                  case measure => omega
                  case rel => exact ⟨q + 1, by omega, by go_num, rfl, rfl, rfl, HNA.out, HST.out.drewN nq⟩
            · have hdl := HDL.out (by omega)
              have l3 : (0 : Int) ≤ l := by omega
              have l4 : l < (n : Int) := by omega
              by_cases l1 : l ∈ L
              · rw [decide_eq_true l1] at hdl
                by_cases r0 : r < 0
                · have HAQ : Hid (Avail (usesC C) L (q : Int)) := Lib.hid (HAV.out.2 ⟨.inr l1, .inl r0⟩)
                  have hLlt : L.length < n := by
                    have := (HGR.out.snoc HAQ.out HLE.out).len_le
                    rw [HUL.out] at this
                    simp at this
                    omega
                  obtain ⟨i0, hi0, hz0, hz1, hz2⟩ := info_of2 infoI2
                  have HI0 := Lib.hid (And.intro hi0 (And.intro hz0 (And.intro hz1 hz2)))
                  have HOO : Hid ((((wr.drewN nq).setCell ⟨gd, q, none⟩ (.bool true)).alloc (.cells #[.int .i64 (q : Int)] 3)).ownsRow (gd + 1) 3 1 (.slice Ao L.length co) L.length (L.map (Value.int .i64))) := Lib.hid (by
                    have hlt2 := HST.out.lt
                    refine own_of_block HST.out.row fun g hg => ?_
                    have hg2 := HST.out.row.lt g hg
                    exact (Below.heap_alloc _ _ g (by simp [World.setCell]; exact hg2.2)).trans (Below.heap_setCell _ _ _ _ (by simp; omega)))
                  have hr1 := reads_one ((wr.drewN nq).setCell ⟨gd, q, none⟩ (.bool true)) (.int .i64 (q : Int)) 3
                  have e9 : ((wr.drewN nq).setCell ⟨gd, q, none⟩ (.bool true)).heap.size = wr.heap.size := by simp [World.setCell]
                  rw [e9] at hr1
                  have HR1 := Lib.hid hr1
                  have hgds := HST.out.lt
                  clear hi0 hz0 hz1 hz2 hr1
                  go_wp2_with (at_builtin; refine wpList_append_any _ rfl (.tmp 69) (.tmp 71) _ rfl (gd + 1) 3 i0 _ 1 8 Try.underlying22 HI0.out.1 HI0.out.2.1 HI0.out.2.2.1 HI0.out.2.2.2 rfl (by omega) (.slice Ao L.length co) L.length (L.map (Value.int .i64)) rfl HOO.out (wr.heap.size + 1) (some ⟨wr.heap.size, 0, none⟩) 1 1 [.int .i64 (q : Int)] rfl HR1.out (by simp [Value.oneCell']) (by simp only [maxLen]; omega) (by omega) (by simp [World.setCell]; omega) ?_; intro v3 w3 hown3 hg3 hat3; have HS3 := Lib.hid ((HST.out.drewN nq).tell (by omega) (by omega) (by omega) (by omega) (by omega) hlt hg3 (by simpa using hown3)); clear hown3 hg3 hat3)
                  go_roundg (n + 1 - (L ++ [(q : Int)]).length)
                  case measure => simp; omega
                  case rel => exact ⟨L ++ [(q : Int)], true, rfl, HGR.out.snoc HAQ.out HLE.out, fun h => (by cases h), HS3.out, by simp⟩
                · have hdr := HDR.out (by omega)
                  have r3 : (0 : Int) ≤ r := by omega
                  have r4 : r < (n : Int) := by omega
                  by_cases r1 : r ∈ L
                  · rw [decide_eq_true r1] at hdr
                    have HAQ : Hid (Avail (usesC C) L (q : Int)) := Lib.hid (HAV.out.2 ⟨.inr l1, .inr r1⟩)
                    have hLlt : L.length < n := by
                      have := (HGR.out.snoc HAQ.out HLE.out).len_le
                      rw [HUL.out] at this
                      simp at this
                      omega
                    obtain ⟨i0, hi0, hz0, hz1, hz2⟩ := info_of2 infoI2
                    have HI0 := Lib.hid (And.intro hi0 (And.intro hz0 (And.intro hz1 hz2)))
                    have HOO : Hid ((((wr.drewN nq).setCell ⟨gd, q, none⟩ (.bool true)).alloc (.cells #[.int .i64 (q : Int)] 3)).ownsRow (gd + 1) 3 1 (.slice Ao L.length co) L.length (L.map (Value.int .i64))) := Lib.hid (by
                      have hlt2 := HST.out.lt
                      refine own_of_block HST.out.row fun g hg => ?_
                      have hg2 := HST.out.row.lt g hg
                      exact (Below.heap_alloc _ _ g (by simp [World.setCell]; exact hg2.2)).trans (Below.heap_setCell _ _ _ _ (by simp; omega)))
                    have hr1 := reads_one ((wr.drewN nq).setCell ⟨gd, q, none⟩ (.bool true)) (.int .i64 (q : Int)) 3
                    have e9 : ((wr.drewN nq).setCell ⟨gd, q, none⟩ (.bool true)).heap.size = wr.heap.size := by simp [World.setCell]
                    rw [e9] at hr1
                    have HR1 := Lib.hid hr1
                    have hgds := HST.out.lt
                    clear hi0 hz0 hz1 hz2 hr1
                    go_wp2_with (at_builtin; refine wpList_append_any _ rfl (.tmp 69) (.tmp 71) _ rfl (gd + 1) 3 i0 _ 1 8 Try.underlying22 HI0.out.1 HI0.out.2.1 HI0.out.2.2.1 HI0.out.2.2.2 rfl (by omega) (.slice Ao L.length co) L.length (L.map (Value.int .i64)) rfl HOO.out (wr.heap.size + 1) (some ⟨wr.heap.size, 0, none⟩) 1 1 [.int .i64 (q : Int)] rfl HR1.out (by simp [Value.oneCell']) (by simp only [maxLen]; omega) (by omega) (by simp [World.setCell]; omega) ?_; intro v3 w3 hown3 hg3 hat3; have HS3 := Lib.hid ((HST.out.drewN nq).tell (by omega) (by omega) (by omega) (by omega) (by omega) hlt hg3 (by simpa using hown3)); clear hown3 hg3 hat3)
                    go_roundg (n + 1 - (L ++ [(q : Int)]).length)
                    case measure => simp; omega
                    case rel => exact ⟨L ++ [(q : Int)], true, rfl, HGR.out.snoc HAQ.out HLE.out, fun h => (by cases h), HS3.out, by simp⟩
                  · rw [decide_eq_false r1] at hdr
                    have HNA : Hid (∀ y, Avail (usesC C) L y → ((q + 1 : Nat) : Int) ≤ y) := Lib.hid (fun y hy => by
                      have h1 := HLE.out y hy
                      have h2 : y ≠ (q : Int) := fun e => by
                        have := HAV.out.1 (e ▸ hy)
                        rcases this.2 with h3 | h3 <;> first | omega | exact r1 h3
                      omega)
                    go_wp2
                    go_roundg (n - (q + 1))
                    case measure => omega
                    case rel => exact ⟨q + 1, by omega, by go_num, rfl, rfl, rfl, HNA.out, HST.out.drewN nq⟩
              · rw [decide_eq_false l1] at hdl
                have HNA : Hid (∀ y, Avail (usesC C) L y → ((q + 1 : Nat) : Int) ≤ y) := Lib.hid (fun y hy => by
                  have h1 := HLE.out y hy
                  have h2 : y ≠ (q : Int) := fun e => by
                    have := HAV.out.1 (e ▸ hy)
                    rcases this.1 with h3 | h3 <;> first | omega | exact l1 h3
                  omega)
                go_wp2
                go_roundg (n - (q + 1))
                case measure => omega
                case rel => exact ⟨q + 1, by omega, by go_num, rfl, rfl, rfl, HNA.out, HST.out.drewN nq⟩
        · have hqe : q = n := by omega
          subst hqe
          have HNA : Hid (∀ y, ¬ Avail (usesC C) L y) := Lib.hid (fun y hy => by
            have h1 := HLE.out y hy
            have h2 := hy.1
            unfold InR at h2
            rw [HUL.out] at h2
            omega)
          go_wp2
          go_roundg 0
          case measure => omega
          case rel => exact ⟨L, false, rfl, HGR.out, fun _ => HNA.out, HST.out, by simp⟩
end Go.Proofs.Ytdodhbfplglbkaa

namespace Go.Proofs.Ytdodhbfplglbkaa
open Go.RowKit

/-- The search from a gate: what is listed, what of it has been looked at. -/
structure Srch (uses : List (Int × Int)) (n : Nat) (at_ : Int) (R : List Int) (i : Nat) : Prop where
  nd : (at_ :: R).Nodup
  inr : ∀ x ∈ at_ :: R, InR n x
  path : ∀ x ∈ at_ :: R, Path uses at_ x
  done : ∀ (j : Nat) (x : Int), j < i → (at_ :: R)[j]? = some x → ∀ y, Edge uses x y → y ∈ at_ :: R ∧ y ≠ at_
  le : i ≤ (at_ :: R).length
section
variable {uses : List (Int × Int)} {n i : Nat} {at_ : Int} {R : List Int}
theorem Srch.len (h : Srch uses n at_ R i) : (at_ :: R).length ≤ n := by
  have := nodup_sub (m := (List.range n).map (fun (k : Nat) => (k : Int))) h.nd (fun x hx => by
    have := h.inr x hx
    exact List.mem_map.2 ⟨x.toNat, List.mem_range.2 (by omega), by omega⟩)
  simpa using this
theorem Srch.start (ha : InR n at_) : Srch uses n at_ [] 0 :=
  ⟨by simp, fun x hx => by simp at hx; exact hx ▸ ha, fun x hx => by simp at hx; exact hx ▸ .refl _, fun j x hj => by omega, Nat.zero_le _⟩
theorem Srch.add (h : Srch uses n at_ R i) {y : Int} (hy : InR n y) (hn : y ∉ R) (hne : y ≠ at_) (hp : Path uses at_ y) : Srch uses n at_ (R ++ [y]) i := by
  have e : at_ :: (R ++ [y]) = (at_ :: R) ++ [y] := rfl
  refine ⟨?_, fun x hx => ?_, fun x hx => ?_, fun j x hj hx z hz => ?_, by have := h.le; simp at this ⊢; omega⟩
  · rw [e, List.nodup_append]
    refine ⟨h.nd, by simp, fun a ha b hb => ?_⟩
    simp at hb
    subst hb
    rcases List.mem_cons.1 ha with rfl | ha
    · exact hne.symm
    · exact fun e => hn (e ▸ ha)
  · rw [e] at hx
    rcases List.mem_append.1 hx with hx | hx
    · exact h.inr x hx
    · simp at hx; exact hx ▸ hy
  · rw [e] at hx
    rcases List.mem_append.1 hx with hx | hx
    · exact h.path x hx
    · simp at hx; exact hx ▸ hp
  · have hle := h.le
    rw [e, List.getElem?_append_left (by omega)] at hx
    have := h.done j x hj hx z hz
    exact ⟨by rw [e]; exact List.mem_append_left _ this.1, this.2⟩
theorem Srch.next (h : Srch uses n at_ R i) {x : Int} (hx : (at_ :: R)[i]? = some x) (hc : ∀ y, Edge uses x y → y ∈ at_ :: R ∧ y ≠ at_) : Srch uses n at_ R (i + 1) := by
  refine ⟨h.nd, h.inr, h.path, fun j z hj hz => ?_, (List.getElem?_eq_some_iff.1 hx).1⟩
  by_cases e : j = i
  · subst e
    rw [hx] at hz
    injection hz with hz
    subst hz
    exact hc
  · exact h.done j z (by omega) hz
theorem Srch.no (h : Srch uses n at_ R i) (hi : i = (at_ :: R).length) : ¬ Cyc uses at_ :=
  round_no (L := at_ :: R) (by simp) fun x hx y hE => by
    obtain ⟨j, hj⟩ := List.getElem?_of_mem hx
    exact h.done j x (by have := (List.getElem?_eq_some_iff.1 hj).1; omega) hj y hE
theorem Srch.yes (h : Srch uses n at_ R i) {x : Int} (hx : (at_ :: R)[i]? = some x) (hE : Edge uses x at_) : Cyc uses at_ := round_yes (h.path x (List.mem_of_getElem? hx)) hE
end
/-- What memory holds while a gate is looked at. -/
structure RndS (w0 w : World) (b gd : Nat) (cs : Array Value) (n : Nat) (v : Value) (at_ : Int) (R : List Int) : Prop where
  below : Below w0.heap.size w0 w
  box : Blk w b 29 cs
  done : Tab w gd (dnT n R)
  row : w.ownsRow (gd + 1) 3 1 v (at_ :: R).length ((at_ :: R).map (Value.int .i64))
section
variable {w0 w : World} {b gd : Nat} {cs : Array Value} {n : Nat} {v : Value} {at_ : Int} {R : List Int}
theorem RndS.drewN (h : RndS w0 w b gd cs n v at_ R) (k : Nat) : RndS w0 (w.drewN k) b gd cs n v at_ R := ⟨below_drewN h.below k, h.box.drewN k, Blk.drewN h.done k, own_of_block h.row fun _ _ => rfl⟩
theorem RndS.drew (h : RndS w0 w b gd cs n v at_ R) : RndS w0 w.drew b gd cs n v at_ R := h.drewN 1
theorem RndS.lt (h : RndS w0 w b gd cs n v at_ R) : gd < w.heap.size := Blk.lt h.done
theorem RndS.alloc (h : RndS w0 w b gd cs n v at_ R) (o : Obj) : RndS w0 (w.alloc o) b gd cs n v at_ R := ⟨h.below.alloc h.below.size o, h.box.alloc o, Blk.alloc h.done o, h.row.alloc o⟩
theorem RndS.add (h : RndS w0 w b gd cs n v at_ R) (h1 : w0.heap.size ≤ gd) (hb : b < gd) {i : Nat} (hi : i < n) {o : Obj} {v' : Value} {w' : World}
    (hgr : ((w.setCell ⟨gd, i, none⟩ (.bool true)).alloc o).grownBy w' v.ownBlock) (ho : w'.ownsRow (gd + 1) 3 1 v' ((at_ :: R).length + 1) ((at_ :: R).map (Value.int .i64) ++ [Value.int .i64 (i : Int)])) :
    RndS w0 w' b gd cs n v' at_ (R ++ [(i : Int)]) := by
  have hlt := h.lt
  have hrow : ∀ k, k ≤ gd → some k ≠ v.ownBlock := fun k hk e => by
    have := (h.row.lt k e.symm).1
    omega
  have hsz : ((w.setCell ⟨gd, i, none⟩ (.bool true)).alloc o).heap.size = w.heap.size + 1 := by simp [World.setCell]
  have hbl : ∀ k, k ≤ gd → w'.heap[k]? = (w.setCell ⟨gd, i, none⟩ (.bool true)).heap[k]? := fun k hk =>
    (hgr.block k (by omega) (hrow k hk)).trans (Below.heap_alloc _ o k (by simp [World.setCell]; omega))
  have hfar : ∀ k, k < gd → w'.heap[k]? = w.heap[k]? := fun k hk => (hbl k (by omega)).trans (Below.heap_setCell _ _ _ _ (by simp; omega))
  refine ⟨h.below.trans ⟨hgr.os, hgr.tape, hgr.output, by have := hgr.size; omega, fun k hk => hfar k (by omega)⟩, (hfar _ hb).trans h.box, ?_, by simpa using ho⟩
  have := (Tab.set_ h.done i true)
  rw [dnT_snoc hi] at this
  exact (hbl gd (Nat.le_refl _)).trans this
theorem blk_keep {g : Nat} {t : TypeId} {ar : Array Value} (hg : Blk w g t ar) (h : RndS w0 w b gd cs n v at_ R) (ht : 3 ≠ t) (hne : g ≠ gd) {i : Nat} {o : Obj} {w' : World}
    (hgr : ((w.setCell ⟨gd, i, none⟩ (.bool true)).alloc o).grownBy w' v.ownBlock) : Blk w' g t ar := by
  have h1 : Blk ((w.setCell ⟨gd, i, none⟩ (.bool true)).alloc o) g t ar := (Blk.far hg hne _).alloc o
  exact h1.grown hgr (fun e => own_blk_ne h.row hg ht e.symm)
end
set_option maxHeartbeats 20000000 in
set_option maxRecDepth 100000 in
theorem rround_any (w : World) (V : CV) (C : Circ) (gg : Nat) (a : Nat) (h : C.In w V) (hm0 : 0 ≤ C.max) (hm1 : C.max ≤ 16384) (hna : C.ands.length ≤ 16384) (hfit : ∀ z ∈ C.ands, FitT C.max z) (hgg : Nums w gg (gateOf C)) (ha : a < C.ands.length) :
    Calls Try.prog 99 #[V.val C.max, .slice (some ⟨gg, 0, none⟩) (C.max.toNat + 1) (C.max.toNat + 1), .int .i64 (a : Int)] w fun e w' => ∃ bl, e = .returned (.bool bl) ∧ (bl = true ↔ Cyc (usesC C) (a : Int)) ∧ Below w.heap.size w w' := by
  have HU := Lib.hid (usesC_ok hm0 hfit)
  have hG := gateOf_lenR C
  obtain ⟨G, hGe⟩ : ∃ G, gateOf C = G := ⟨_, rfl⟩
  have HGE := Lib.hid hGe
  rw [hGe] at hG hgg
  obtain ⟨m, hmm⟩ : ∃ m : Nat, C.max = (m : Int) := ⟨C.max.toNat, by omega⟩
  rw [hmm] at hG hfit ⊢
  have hmt : ((m : Int)).toNat = m := by omega
  rw [hmt] at hG ⊢
  have HFIT := Lib.hid hfit
  have HG := Lib.hid hG
  have HGG := Lib.hid hgg
  obtain ⟨AA, cA, eA, _, _, hA⟩ := h.a
  have HA := Lib.hid hA
  obtain ⟨Vi, Vl, Vo, Vb, Vc, Vj, Vf, Va, Vs, Vt⟩ := V
  simp only at eA
  subst eA
  have hUL := usesC_len C
  generalize hn : C.ands.length = n at *
  have hmk := make_boolsR n (by omega)
  have HN := Lib.hid hn
  have HUL := Lib.hid hUL
  have hm2 : m ≤ 16384 := by omega
  have hgl := Blk.lt hgg
  have HS0 : Hid (RndS w (((w.alloc (.cells #[.int .i64 m, Vi, Vl, Vo, Vb, Vc, Vj, Vf, .slice AA n cA, Vs, Vt] 29)).alloc (.cells (madeCells #[Value.bool false] n) 4)).alloc (.cells #[.int .i64 (a : Int)] 3)) w.heap.size (w.heap.size + 1) #[.int .i64 m, Vi, Vl, Vo, Vb, Vc, Vj, Vf, .slice AA n cA, Vs, Vt] n (.slice (some ⟨w.heap.size + 1 + 1, 0, none⟩) 1 1) (a : Int) []) := Lib.hid (by
    refine ⟨(((Below.refl w.heap.size w).alloc (Nat.le_refl _) _).alloc (by simp) _).alloc (by simp; omega) _, ((Blk.new w _ _).alloc _).alloc _, ?_, ?_⟩
    · rw [dnT_nil]
      unfold Tab
      rw [made_falses]
      have := (Blk.new (w.alloc (.cells #[.int .i64 m, Vi, Vl, Vo, Vb, Vc, Vj, Vf, .slice AA n cA, Vs, Vt] 29)) 4 ((List.replicate n false).map Value.bool).toArray).alloc (.cells #[.int .i64 (a : Int)] 3)
      simpa using this
    · have := World.ownsRow_lit (base := w.heap.size + 1 + 1) (e := 3) (size := 1) ((w.alloc (.cells #[.int .i64 m, Vi, Vl, Vo, Vb, Vc, Vj, Vf, .slice AA n cA, Vs, Vt] 29)).alloc (.cells (madeCells #[Value.bool false] n) 4)) #[.int .i64 (a : Int)] 1 (by simp) (by simp [maxLen]) rfl
      simpa using this)
  have HSR0 : Hid (Srch (usesC C) n (a : Int) [] 0) := Lib.hid (Srch.start ⟨by omega, by omega⟩)
  clear hn hUL h hA hfit hG hGe hmm hmt hm0 hm1 hgg
  go_enter Try.func99, Try.ntmps99
  go_wp2
  go_loopg [8, 9] n (fun k lv iv wr => ∃ (R : List Int) (i : Nat), iv = .int .i64 i ∧ Srch (usesC C) n (a : Int) R i ∧ RndS w wr w.heap.size (w.heap.size + 1) #[.int .i64 m, Vi, Vl, Vo, Vb, Vc, Vj, Vf, .slice AA n cA, Vs, Vt] n lv (a : Int) R ∧ k = n - i)
  case atStart => exact ⟨[], 0, rfl, HSR0.out, HS0.out, rfl⟩
  case round =>
    obtain ⟨R, i, rfl, hsr, hst, hgk⟩ := hrel
    subst hgk
    have HSR := Lib.hid hsr
    have HST := Lib.hid hst
    have hll := hsr.len
    have hil := hsr.le
    clear hsr hst HS0 HSR0
    obtain ⟨Ao, co, rfl⟩ := own_slice HST.out.row
    obtain ⟨c0, c1, c2, c3, c4, c5, c6, c7, c8, c9, c10⟩ := rbox_of HST.out.box
    obtain ⟨N, hNe⟩ : ∃ N, ((a : Int) :: R).length = N := ⟨_, rfl⟩
    rw [hNe] at hll hil ⊢
    have HNE := Lib.hid hNe
    clear hNe
    by_cases hlt : i < N
    · obtain ⟨x, hx⟩ : ∃ x, ((a : Int) :: R)[i]? = some x := ⟨_, List.getElem?_eq_getElem (by rw [HNE.out]; exact hlt)⟩
      have hxr := HSR.out.inr x (List.mem_of_getElem? hx)
      obtain ⟨xn, rfl⟩ : ∃ xn : Nat, x = (xn : Int) := ⟨x.toNat, by unfold InR at hxr; omega⟩
      have hxn : xn < n := by unfold InR at hxr; omega
      have hre : RowE 1 encI wr (.slice Ao ((a : Int) :: R).length co) ((a : Int) :: R) := own_rowe lenI (by rw [flat_ints]; exact HST.out.row)
      obtain ⟨A', c', eA', _, _, hrun⟩ := hre
      injection eA' with g1 g2 g3
      subst g1
      clear g2 g3
      obtain ⟨b1, off1, rfl, hb1, hcell1⟩ := hrun i _ hx
      have o0 := hcell1 0 _ rfl
      simp only [Nat.mul_one, Nat.add_zero] at o0
      have HX := Lib.hid hx
      clear hcell1 hrun hx hxr
      obtain ⟨z, hz⟩ : ∃ z, C.ands[xn]? = some z := ⟨_, List.getElem?_eq_getElem (by rw [HN.out]; exact hxn)⟩
      obtain ⟨b, off, rfl, hb, hcell⟩ := HA.out xn z hz
      have hzo := HFIT.out z (List.mem_of_getElem? hz)
      have HZ := Lib.hid hz
      clear hz
      obtain ⟨x0, x1, x2⟩ := z
      have i0 := (HST.out.below.cell (p := ⟨b, off + (xn * 3 + 0), none⟩) hb).trans (hcell 0 _ rfl)
      have i1 := (HST.out.below.cell (p := ⟨b, off + (xn * 3 + 1), none⟩) hb).trans (hcell 1 _ rfl)
      have i2 := (HST.out.below.cell (p := ⟨b, off + (xn * 3 + 2), none⟩) hb).trans (hcell 2 _ rfl)
      simp only [← Nat.add_assoc, Nat.add_zero] at i0 i1 i2
      obtain ⟨_, ⟨a1, a2⟩, ⟨d1, d2⟩⟩ := hzo
      simp only at a1 a2 d1 d2
      have q1 := tdiv_nn (b := 2) a1
      have q2 := tdiv_nn (b := 2) d1
      have z1 : 0 ≤ x1 / 2 := by omega
      have z2 : x1 / 2 < ((m + 1 : Nat) : Int) := by omega
      have z3 : 0 ≤ x2 / 2 := by omega
      have z4 : x2 / 2 < ((m + 1 : Nat) : Int) := by omega
      have z5 : IntKind.i64.wrap (x1 / 2) = x1 / 2 := i64_small (by omega) (by omega)
      have z6 : IntKind.i64.wrap (x2 / 2) = x2 / 2 := i64_small (by omega) (by omega)
      have z7 : x1 / 2 < (m : Int) + 1 := by omega
      have z8 : x2 / 2 < (m : Int) + 1 := by omega
      obtain ⟨l, hl⟩ : ∃ l, G[(x1 / 2).toNat]? = some l := ⟨_, List.getElem?_eq_getElem (by rw [HG.out]; omega)⟩
      obtain ⟨r, hr⟩ : ∃ r, G[(x2 / 2).toNat]? = some r := ⟨_, List.getElem?_eq_getElem (by rw [HG.out]; omega)⟩
      have hnw := (Blk.below HGG.out HST.out.below (Blk.lt HGG.out))
      have n1 := Nums.cell hnw hl
      have n2 := Nums.cell hnw hr
      have HLR := Lib.hid (gate_use HZ.out (l := l) (r := r) (by rw [HGE.out]; simp [List.getD, hl]) (by rw [HGE.out]; simp [List.getD, hr]))
      have huse := use_at HU.out (i := xn) (by rw [HUL.out]; exact hxn)
      have hlr : (l < 0 ∨ l < (n : Int)) ∧ (r < 0 ∨ r < (n : Int)) ∧ (l < 0 → l = -1) ∧ (r < 0 → r = -1) := by
        obtain ⟨p, _, hp, hp1, hp2⟩ := huse
        have e : p = (l, r) := by
          have h1 := HLR.out
          simp only [Int.toNat_natCast] at h1
          simpa using hp.symm.trans h1
        subst e
        unfold UseOk at hp1 hp2
        rw [HUL.out] at hp1 hp2
        simp only at hp1 hp2
        omega
      obtain ⟨hl2, hr2, hl3, hr3⟩ := hlr
      have HE1 : Hid (0 ≤ l → Edge (usesC C) (xn : Int) l) := Lib.hid (fun h => ⟨by omega, by rw [HLR.out]; exact .inl rfl⟩)
      have HE2 : Hid (0 ≤ r → Edge (usesC C) (xn : Int) r) := Lib.hid (fun h => ⟨by omega, by rw [HLR.out]; exact .inr rfl⟩)
      have HEE : Hid (∀ y, Edge (usesC C) (xn : Int) y → y = l ∨ y = r) := Lib.hid (fun y hy => by
        have := hy.2
        rw [HLR.out] at this
        rcases this with h | h
        · exact .inl h.symm
        · exact .inr h.symm)
      have hbz := Nat.lt_of_lt_of_le hb HST.out.below.size
      have hggz : gg < wr.heap.size := Blk.lt hnw
      have hbld := build_two l r
      have hk0 : (0 : Int) ≤ (i : Int) := by omega
      have hk1 : (i : Int) < (N : Int) := by omega
      have hk2 : (0 : Int) ≤ (xn : Int) := by omega
      have hk3 : (xn : Int) < (n : Int) := by omega
      have HNW := Lib.hid hnw
      have hxn2 : ((xn : Int)).toNat = xn := by omega
      clear hcell huse hnw
      have f1 := World.new_ne wr _ c8
      have f2 := World.new_ne wr _ o0
      have f3 := World.new_ne wr _ i0
      have f4 := World.new_ne wr _ i1
      have f5 := World.new_ne wr _ i2
      go_wp2
      go_region_held3 (fun w' => w'.cell? ⟨w.heap.size, 8, none⟩ = some (.slice (some ⟨b, off, none⟩) n cA) ∧ w'.cell? ⟨b1, off1 + i, none⟩ = some (.int .i64 (xn : Int)) ∧ w'.cell? ⟨b, off + xn * 3, none⟩ = some (.int .i64 x0) ∧ w'.cell? ⟨b, off + xn * 3 + 1, none⟩ = some (.int .i64 x1) ∧ w'.cell? ⟨b, off + xn * 3 + 2, none⟩ = some (.int .i64 x2)) (first | exact ⟨c8, o0, i0, i1, i2⟩ | go_keep) (fail)
      have HST6 : Hid (RndS w (wr.alloc (.cells #[.int .i64 x0, .int .i64 x1, .int .i64 x2] 68)).drew w.heap.size (w.heap.size + 1) #[.int .i64 m, Vi, Vl, Vo, Vb, Vc, Vj, Vf, .slice (some ⟨b, off, none⟩) n cA, Vs, Vt] n (.slice (some ⟨b1, off1, none⟩) N co) (a : Int) R) := Lib.hid (by
        have := (HST.out.alloc (.cells #[.int .i64 x0, .int .i64 x1, .int .i64 x2] 68)).drew
        rw [HNE.out] at this
        exact this)
      have hx6 : Blk (wr.alloc (.cells #[.int .i64 x0, .int .i64 x1, .int .i64 x2] 68)).drew wr.heap.size 68 #[.int .i64 x0, .int .i64 x1, .int .i64 x2] := (Blk.new _ _ _).drew
      have hn6 : Nums (wr.alloc (.cells #[.int .i64 x0, .int .i64 x1, .int .i64 x2] 68)).drew gg G := (Blk.alloc HNW.out _).drew
      have hz6 : (wr.alloc (.cells #[.int .i64 x0, .int .i64 x1, .int .i64 x2] 68)).drew.heap.size = wr.heap.size + 1 := by
        show (wr.alloc _).heap.size = _
        simp
      generalize (wr.alloc (.cells #[.int .i64 x0, .int .i64 x1, .int .i64 x2] 68)).drew = w6 at *
      have x61 := hx6.cell 1
      have x62 := hx6.cell 2
      simp only [List.getElem?_toArray, List.getElem?_cons_zero, List.getElem?_cons_succ] at x61 x62
      have n61 := Nums.cell hn6 hl
      have n62 := Nums.cell hn6 hr
      have f61 := World.new_ne w6 _ x61
      have f62 := World.new_ne w6 _ x62
      have f63 := World.new_ne w6 _ n61
      have f64 := World.new_ne w6 _ n62
      have HLW := Lib.hid HST.out.lt
      clear c0 c1 c2 c3 c4 c5 c6 c7 c8 c9 c10 o0 i0 i1 i2 n1 n2 hx6 hn6 f1 f2 f3 f4 f5 hl hr
      go_wp2
      go_region_held3 (fun w' => w'.cell? ⟨wr.heap.size, 1, none⟩ = some (.int .i64 x1) ∧ w'.cell? ⟨wr.heap.size, 2, none⟩ = some (.int .i64 x2) ∧ w'.cell? ⟨gg, (x1 / 2).toNat, none⟩ = some (.int .i64 l) ∧ w'.cell? ⟨gg, (x2 / 2).toNat, none⟩ = some (.int .i64 r)) (first | exact ⟨x61, x62, n61, n62⟩ | go_keep) (fail)
      go_wp2
      have HSA : Hid (RndS w (w6.alloc (.cells #[.int .i64 l, .int .i64 r] 152)).drew w.heap.size (w.heap.size + 1) #[.int .i64 m, Vi, Vl, Vo, Vb, Vc, Vj, Vf, .slice (some ⟨b, off, none⟩) n cA, Vs, Vt] n (.slice (some ⟨b1, off1, none⟩) N co) (a : Int) R) := Lib.hid (HST6.out.alloc _).drew
      have HBB : Hid (Blk (w6.alloc (.cells #[.int .i64 l, .int .i64 r] 152)).drew w6.heap.size 152 #[.int .i64 l, .int .i64 r]) := Lib.hid (Blk.new _ _ _).drew
      rw [hz6] at HBB
      have hgb : w.heap.size + 1 < wr.heap.size + 1 := by have := HLW.out; omega
      generalize hgbe : wr.heap.size + 1 = gb at *
      clear hgbe
      go_loopg [8, 12] 2 (fun k lv iv wx => ∃ (t : Nat) (R2 : List Int), t ≤ 2 ∧ iv = .int .i64 t ∧ k = 2 - t ∧ Srch (usesC C) n (a : Int) R2 i ∧ ((a : Int) :: R2)[i]? = some (xn : Int) ∧ RndS w wx w.heap.size (w.heap.size + 1) #[.int .i64 m, Vi, Vl, Vo, Vb, Vc, Vj, Vf, .slice (some ⟨b, off, none⟩) n cA, Vs, Vt] n lv (a : Int) R2 ∧ Blk wx gb 152 #[.int .i64 l, .int .i64 r] ∧ (0 < t → 0 ≤ l → l ∈ (a : Int) :: R2 ∧ l ≠ (a : Int)) ∧ (1 < t → 0 ≤ r → r ∈ (a : Int) :: R2 ∧ r ≠ (a : Int)))
      case atStart => exact ⟨0, R, by omega, rfl, rfl, HSR.out, HX.out, HSA.out, HBB.out, fun h => by omega, fun h => by omega⟩
      case round =>
        obtain ⟨t, R2, ht, rfl, hgk, hsr2, hx2, hst2, hbb, hd1, hd2⟩ := hrel
        subst hgk
        have HS2 := Lib.hid hsr2
        have HX2 := Lib.hid hx2
        have HT2 := Lib.hid hst2
        have HB2 := Lib.hid hbb
        have HD1 := Lib.hid hd1
        have HD2 := Lib.hid hd2
        obtain ⟨A2, c2, rfl⟩ := own_slice HT2.out.row
        have p0 := HB2.out.cell 0
        have p1 := HB2.out.cell 1
        simp only [List.getElem?_toArray, List.getElem?_cons_zero, List.getElem?_cons_succ] at p0 p1
        clear hsr2 hx2 hst2 hbb hd1 hd2 HSA HBB
        have h3 : t = 0 ∨ t = 1 ∨ t = 2 := by omega
        rcases h3 with rfl | rfl | rfl
        · have hbd0 := hl2
          by_cases e0 : l = (a : Int)
          · have HCY := Lib.hid (HS2.out.yes HX2.out (by have := HE1.out (by omega); rwa [e0] at this))
            have eq1 : (l == (a : Int)) = true := by simpa using e0
            clear e0
            go_wp2
            go_ret
            exact ⟨_, rfl, ⟨fun _ => HCY.out, fun _ => rfl⟩, HT2.out.below⟩
          · have eq1 : (l == (a : Int)) = false := by simpa using e0
            have HE0 := Lib.hid e0
            clear e0
            by_cases y0 : l < 0
            · have y1 : decide (0 ≤ l) = false := decide_eq_false (by omega)
              go_wp2
              go_roundg (2 - (0 + 1))
              case measure => omega
              case rel => exact ⟨1, R2, by omega, by go_num, rfl, HS2.out, HX2.out, HT2.out, HB2.out, fun _ h0 => absurd h0 (by omega), fun h => by omega⟩
            · have y1 : (0 : Int) ≤ l := by omega
              have y2 : l < (n : Int) := by omega
              obtain ⟨yn, hyn⟩ : ∃ yn : Nat, l = (yn : Int) := ⟨l.toNat, by omega⟩
              have hd := HT2.out.done.cell (dnT_get (n := n) (L := R2) (k := yn) (by omega))
              have hfd := Blk.frozen HT2.out.done yn
              rw [← hyn] at hd
              have y3 : l.toNat = yn := by omega
              have HYN := Lib.hid hyn
              clear hyn
              by_cases hin : l ∈ R2
              · rw [decide_eq_true hin] at hd
                have HIN := Lib.hid hin
                clear hin
                go_wp2
                go_roundg (2 - (0 + 1))
                case measure => omega
                case rel => exact ⟨1, R2, by omega, by go_num, rfl, HS2.out, HX2.out, HT2.out, HB2.out, fun _ h0 => ⟨List.mem_cons_of_mem _ HIN.out, HE0.out⟩, fun h => by omega⟩
              · rw [decide_eq_false hin] at hd
                have HSN := Lib.hid (HS2.out.add (y := l) ⟨y1, y2⟩ hin HE0.out ((HS2.out.path _ (List.mem_of_getElem? HX2.out)).trans (Path.one (HE1.out y1))))
                have HXN : Hid (((a : Int) :: (R2 ++ [l]))[i]? = some (xn : Int)) := Lib.hid (by
                  have := List.getElem?_append_left (l₁ := (a : Int) :: R2) (l₂ := [l]) (i := i) ((List.getElem?_eq_some_iff.1 HX2.out).1)
                  rw [HX2.out] at this
                  exact this)
                have hln := HSN.out.len
                simp only [List.length_cons, List.length_append, List.length_nil] at hln
                obtain ⟨i0, hi0, hz0, hz1, hz2⟩ := info_of2 infoI2
                have HI0 := Lib.hid (And.intro hi0 (And.intro hz0 (And.intro hz1 hz2)))
                have HOO : Hid (((wr.setCell ⟨w.heap.size + 1, yn, none⟩ (.bool true)).alloc (.cells #[.int .i64 l] 3)).ownsRow (w.heap.size + 1 + 1) 3 1 (.slice A2 ((a : Int) :: R2).length c2) ((a : Int) :: R2).length (((a : Int) :: R2).map (Value.int .i64))) := Lib.hid (by
                  refine own_of_block HT2.out.row fun g hg => ?_
                  have hg2 := HT2.out.row.lt g hg
                  exact (Below.heap_alloc _ _ g (by simp [World.setCell]; exact hg2.2)).trans (Below.heap_setCell _ _ _ _ (by simp; omega)))
                have hr1 := reads_one (wr.setCell ⟨w.heap.size + 1, yn, none⟩ (.bool true)) (.int .i64 l) 3
                have e9 : (wr.setCell ⟨w.heap.size + 1, yn, none⟩ (.bool true)).heap.size = wr.heap.size := by simp [World.setCell]
                rw [e9] at hr1
                have HR1 := Lib.hid hr1
                have hgds := HT2.out.lt
                have e7 : ¬ gb = w.heap.size + 1 := by omega
                have e8 : ¬ w.heap.size + 1 = gb := by omega
                clear hi0 hz0 hz1 hz2 hr1 hin
                go_wp2_with (at_builtin; refine wpList_append_any _ rfl (.tmp 73) (.tmp 77) _ rfl (w.heap.size + 1 + 1) 3 i0 _ 1 8 Try.underlying22 HI0.out.1 HI0.out.2.1 HI0.out.2.2.1 HI0.out.2.2.2 rfl (by omega) (.slice A2 ((a : Int) :: R2).length c2) ((a : Int) :: R2).length (((a : Int) :: R2).map (Value.int .i64)) rfl HOO.out (wr.heap.size + 1) (some ⟨wr.heap.size, 0, none⟩) 1 1 [.int .i64 l] rfl HR1.out (by simp [Value.oneCell']) (by simp only [maxLen, List.length_cons]; omega) (by simp only [List.length_cons]; omega) (by simp [World.setCell]; omega) ?_; intro v3 w3 hown3 hg3 hat3; have HS3 := Lib.hid (HT2.out.add (i := yn) (by omega) (by omega) (by omega) hg3 (by have := hown3; rw [HYN.out] at this; exact this)); have HB3 := Lib.hid (blk_keep HB2.out HT2.out (by decide) (by omega) hg3); clear hown3 hg3 hat3)
                go_roundg (2 - (0 + 1))
                case measure => omega
                case rel => exact ⟨1, R2 ++ [l], by omega, by go_num, rfl, HSN.out, HXN.out, by have := HS3.out; rwa [← HYN.out] at this, HB3.out, fun _ h0 => ⟨by simp, HE0.out⟩, fun h => by omega⟩
        · have hbd1 := hr2
          by_cases e0 : r = (a : Int)
          · have HCY := Lib.hid (HS2.out.yes HX2.out (by have := HE2.out (by omega); rwa [e0] at this))
            have eq1 : (r == (a : Int)) = true := by simpa using e0
            clear e0
            go_wp2
            go_ret
            exact ⟨_, rfl, ⟨fun _ => HCY.out, fun _ => rfl⟩, HT2.out.below⟩
          · have eq1 : (r == (a : Int)) = false := by simpa using e0
            have HE0 := Lib.hid e0
            clear e0
            by_cases y0 : r < 0
            · have y1 : decide (0 ≤ r) = false := decide_eq_false (by omega)
              go_wp2
              go_roundg (2 - (1 + 1))
              case measure => omega
              case rel => exact ⟨2, R2, by omega, by go_num, rfl, HS2.out, HX2.out, HT2.out, HB2.out, fun _ h0 => HD1.out (by omega) h0, fun _ h0 => absurd h0 (by omega)⟩
            · have y1 : (0 : Int) ≤ r := by omega
              have y2 : r < (n : Int) := by omega
              obtain ⟨yn, hyn⟩ : ∃ yn : Nat, r = (yn : Int) := ⟨r.toNat, by omega⟩
              have hd := HT2.out.done.cell (dnT_get (n := n) (L := R2) (k := yn) (by omega))
              have hfd := Blk.frozen HT2.out.done yn
              rw [← hyn] at hd
              have y3 : r.toNat = yn := by omega
              have HYN := Lib.hid hyn
              clear hyn
              by_cases hin : r ∈ R2
              · rw [decide_eq_true hin] at hd
                have HIN := Lib.hid hin
                clear hin
                go_wp2
                go_roundg (2 - (1 + 1))
                case measure => omega
                case rel => exact ⟨2, R2, by omega, by go_num, rfl, HS2.out, HX2.out, HT2.out, HB2.out, fun _ h0 => HD1.out (by omega) h0, fun _ h0 => ⟨List.mem_cons_of_mem _ HIN.out, HE0.out⟩⟩
              · rw [decide_eq_false hin] at hd
                have HSN := Lib.hid (HS2.out.add (y := r) ⟨y1, y2⟩ hin HE0.out ((HS2.out.path _ (List.mem_of_getElem? HX2.out)).trans (Path.one (HE2.out y1))))
                have HXN : Hid (((a : Int) :: (R2 ++ [r]))[i]? = some (xn : Int)) := Lib.hid (by
                  have := List.getElem?_append_left (l₁ := (a : Int) :: R2) (l₂ := [r]) (i := i) ((List.getElem?_eq_some_iff.1 HX2.out).1)
                  rw [HX2.out] at this
                  exact this)
                have hln := HSN.out.len
                simp only [List.length_cons, List.length_append, List.length_nil] at hln
                obtain ⟨i0, hi0, hz0, hz1, hz2⟩ := info_of2 infoI2
                have HI0 := Lib.hid (And.intro hi0 (And.intro hz0 (And.intro hz1 hz2)))
                have HOO : Hid (((wr.setCell ⟨w.heap.size + 1, yn, none⟩ (.bool true)).alloc (.cells #[.int .i64 r] 3)).ownsRow (w.heap.size + 1 + 1) 3 1 (.slice A2 ((a : Int) :: R2).length c2) ((a : Int) :: R2).length (((a : Int) :: R2).map (Value.int .i64))) := Lib.hid (by
                  refine own_of_block HT2.out.row fun g hg => ?_
                  have hg2 := HT2.out.row.lt g hg
                  exact (Below.heap_alloc _ _ g (by simp [World.setCell]; exact hg2.2)).trans (Below.heap_setCell _ _ _ _ (by simp; omega)))
                have hr1 := reads_one (wr.setCell ⟨w.heap.size + 1, yn, none⟩ (.bool true)) (.int .i64 r) 3
                have e9 : (wr.setCell ⟨w.heap.size + 1, yn, none⟩ (.bool true)).heap.size = wr.heap.size := by simp [World.setCell]
                rw [e9] at hr1
                have HR1 := Lib.hid hr1
                have hgds := HT2.out.lt
                have e7 : ¬ gb = w.heap.size + 1 := by omega
                have e8 : ¬ w.heap.size + 1 = gb := by omega
                clear hi0 hz0 hz1 hz2 hr1 hin
                go_wp2_with (at_builtin; refine wpList_append_any _ rfl (.tmp 73) (.tmp 77) _ rfl (w.heap.size + 1 + 1) 3 i0 _ 1 8 Try.underlying22 HI0.out.1 HI0.out.2.1 HI0.out.2.2.1 HI0.out.2.2.2 rfl (by omega) (.slice A2 ((a : Int) :: R2).length c2) ((a : Int) :: R2).length (((a : Int) :: R2).map (Value.int .i64)) rfl HOO.out (wr.heap.size + 1) (some ⟨wr.heap.size, 0, none⟩) 1 1 [.int .i64 r] rfl HR1.out (by simp [Value.oneCell']) (by simp only [maxLen, List.length_cons]; omega) (by simp only [List.length_cons]; omega) (by simp [World.setCell]; omega) ?_; intro v3 w3 hown3 hg3 hat3; have HS3 := Lib.hid (HT2.out.add (i := yn) (by omega) (by omega) (by omega) hg3 (by have := hown3; rw [HYN.out] at this; exact this)); have HB3 := Lib.hid (blk_keep HB2.out HT2.out (by decide) (by omega) hg3); clear hown3 hg3 hat3)
                go_roundg (2 - (1 + 1))
                case measure => omega
                case rel => exact ⟨2, R2 ++ [r], by omega, by go_num, rfl, HSN.out, HXN.out, by have := HS3.out; rwa [← HYN.out] at this, HB3.out, fun _ h0 => (by have := HD1.out (by omega) h0; exact ⟨by have := this.1; simp at this ⊢; rcases this with h | h; exact .inl h; exact .inr (.inl h), this.2⟩), fun _ h0 => ⟨by simp, HE0.out⟩⟩
        · go_wp2
          go_roundg (n - (i + 1))
          case measure => omega
          case rel =>
            refine ⟨R2, i + 1, by go_num, HS2.out.next HX2.out (fun y hy => ?_), HT2.out, rfl⟩
            rcases HEE.out y hy with rfl | rfl
            · have hy0 : 0 ≤ y := by have := hy.1; omega
              exact HD1.out (by omega) hy0
            · have hy0 : 0 ≤ y := by have := hy.1; omega
              exact HD2.out (by omega) hy0
    · have hie : i = N := by omega
      have HNO := Lib.hid (HSR.out.no (by rw [HNE.out]; exact hie))
      subst hie
      go_wp2
      go_ret
      exact ⟨_, rfl, ⟨fun h => (by cases h), fun h => absurd h HNO.out⟩, HST.out.below⟩
end Go.Proofs.Ytdodhbfplglbkaa

namespace Go.Proofs.Ytdodhbfplglbkaa
open Go.RowKit

/-- The kinds and numbers of the symbols ahead, the last one first. -/
def psK (C : Circ) (k : Nat) : List (Int × Int) := ((C.symbols.take k).map (fun s => (s.kind, s.at_))).reverse
theorem psK_snoc {C : Circ} {k : Nat} {s : Sym} (h : C.symbols[k]? = some s) : psK C (k + 1) = (s.kind, s.at_) :: psK C k := by
  unfold psK
  rw [List.take_add_one, h]; simp
theorem psK_zero (C : Circ) : psK C 0 = [] := rfl
/-- The bytes of a name. -/
def lowAll (s : ByteArray) (k : Nat) : Bool := (s.data.toList.take k).all fun b => decide (32 ≤ b.toNat)
theorem lowAll_snoc {s : ByteArray} {k : Nat} (hk : k < s.size) : lowAll s (k + 1) = (lowAll s k && decide (32 ≤ s[k].toNat)) := by
  have hk' : k < s.data.toList.length := by rw [Array.length_toList]; exact hk
  unfold lowAll
  rw [List.take_succ_eq_append_getElem hk', List.all_append]
  have e : s.data.toList[k] = s[k] := rfl
  rw [e]; simp
theorem nameB_all (s : ByteArray) : nameB s = (decide (1 ≤ s.size ∧ s.size ≤ 64) && lowAll s s.size) := by
  have e : s.data.toList.take s.size = s.data.toList := List.take_of_length_le (by rw [Array.length_toList]; exact Nat.le_refl _)
  unfold nameB lowAll; rw [e]
/-- What stays while a symbol is looked at. -/
structure SymS (w0 w : World) (b gs : Nat) (cs : Array Value) (kd at_ : Int) (nm : ByteArray) : Prop where
  below : Below w0.heap.size w0 w
  box : Blk w b 29 cs
  sym : Blk w gs 155 #[.int .u8 kd, .int .i64 at_, .string nm]
theorem SymS.drewN {w0 w : World} {b gs : Nat} {cs : Array Value} {kd at_ : Int} {nm : ByteArray} (h : SymS w0 w b gs cs kd at_ nm) (k : Nat) : SymS w0 (w.drewN k) b gs cs kd at_ nm := ⟨below_drewN h.below k, h.box.drewN k, h.sym.drewN k⟩

set_option maxHeartbeats 20000000 in
set_option maxRecDepth 100000 in
theorem rsymbols_any (w : World) (V : CV) (C : Circ) (h : C.In w V) (ok : C.Ok) (hn16 : C.symbols.length ≤ 16384) :
    Calls Try.prog 100 #[V.val C.max] w fun e w' => e = .returned (.tuple #[.int .i64 (symR C).1, .int .i64 (symR C).2]) ∧ Below w.heap.size w w' := by
  have HCN := Lib.hid (fun k => countF_bd h k)
  obtain ⟨Ai, ci, ei, hi2⟩ := len_form h.i
  obtain ⟨Al, cl, el, hl2⟩ := len_form h.l
  obtain ⟨Ao, co, eo, ho2⟩ := len_form h.o
  obtain ⟨Ab, cb, eb, hb2⟩ := len_form h.b
  obtain ⟨Ac, cc, ec, hc2⟩ := len_form h.c
  obtain ⟨Aj, cj, ej, hj2, _⟩ := h.j.at_
  obtain ⟨Af, cf, ef, hf2⟩ := len_form h.f
  obtain ⟨AS, cS, eS, _, _, hS⟩ := h.s
  obtain ⟨Vi, Vl, Vo, Vb, Vc, Vj, Vf, Va, Vs, Vt⟩ := V
  simp only at ei el eo eb ec ej ef eS
  subst ei el eo eb ec ej ef eS
  have HS := Lib.hid hS
  have HOK := Lib.hid ok
  have HSN := Lib.hid ok.sn
  clear h hS ok
  generalize hr : symR C = r
  have HR := Lib.hid hr
  clear hr
  unfold symR at HR
  have HCF : Hid (∀ k, countF C k = if k = 105 then (C.inputs.length : Int) else if k = 108 then (C.latches.length : Int) else if k = 111 then (C.outputs.length : Int) else if k = 98 then (C.bads.length : Int) else if k = 99 then (C.constraints.length : Int) else if k = 106 then (C.justice.length : Int) else if k = 102 then (C.fairness.length : Int) else 0) := Lib.hid (fun k => rfl)
  generalize C.inputs.length = ni at *
  generalize C.latches.length = nl at *
  generalize C.outputs.length = no at *
  generalize C.bads.length = nb at *
  generalize C.constraints.length = nc at *
  generalize C.justice.length = nj at *
  generalize C.fairness.length = nf at *
  generalize hn : C.symbols.length = n at *
  have HN := Lib.hid hn
  clear hn
  unfold maxLen at *
  have HBX : Hid (Blk (w.alloc (.cells #[.int .i64 C.max, .slice Ai ni ci, .slice Al nl cl, .slice Ao no co, .slice Ab nb cb, .slice Ac nc cc, .slice Aj nj cj, .slice Af nf cf, Va, .slice AS n cS, Vt] 29)) w.heap.size 29 #[.int .i64 C.max, .slice Ai ni ci, .slice Al nl cl, .slice Ao no co, .slice Ab nb cb, .slice Ac nc cc, .slice Aj nj cj, .slice Af nf cf, Va, .slice AS n cS, Vt]) := Lib.hid (Blk.new _ _ _)
  have HBB : Hid (Below w.heap.size w (w.alloc (.cells #[.int .i64 C.max, .slice Ai ni ci, .slice Al nl cl, .slice Ao no co, .slice Ab nb cb, .slice Ac nc cc, .slice Aj nj cj, .slice Af nf cf, Va, .slice AS n cS, Vt] 29))) := Lib.hid ((Below.refl w.heap.size w).alloc (Nat.le_refl _) _)
  go_enter Try.func100, Try.ntmps100
  go_wp2
  go_loopg [4] n (fun j iv wr => ∃ i : Nat, i ≤ n ∧ iv = .int .i64 i ∧ j = n - i ∧ symAll C C.symbols 0 [] = symAll C (C.symbols.drop i) i (psK C i) ∧ Below w.heap.size w wr ∧ Blk wr w.heap.size 29 #[.int .i64 C.max, .slice Ai ni ci, .slice Al nl cl, .slice Ao no co, .slice Ab nb cb, .slice Ac nc cc, .slice Aj nj cj, .slice Af nf cf, Va, .slice AS n cS, Vt])
  case atStart => exact ⟨0, Nat.zero_le _, rfl, rfl, by rw [psK_zero]; rfl, HBB.out, HBX.out⟩
  case round =>
    obtain ⟨i, hi, rfl, hgk, hall, hbl, hbx⟩ := hrel
    subst hgk
    have HALL := Lib.hid hall
    have HBL := Lib.hid hbl
    have HBO := Lib.hid hbx
    clear hall HBX HBB
    obtain ⟨c0, c1, c2, c3, c4, c5, c6, c7, c8, c9, c10⟩ := rbox_of hbx
    by_cases hlt : i < n
    · have hx := List.getElem?_eq_getElem (l := C.symbols) (i := i) (by rw [HN.out]; exact hlt)
      generalize C.symbols[i]'(by rw [HN.out]; exact hlt) = x at hx
      obtain ⟨b, off, rfl, hb, hcell⟩ := HS.out i x hx
      have hxo := HOK.out.s x (List.mem_of_getElem? hx)
      have hnm := HSN.out x (List.mem_of_getElem? hx)
      have HX := Lib.hid hx
      obtain ⟨kd, at_, nm⟩ := x
      have h0 := (hbl.cell (p := ⟨b, off + (i * 3 + 0), none⟩) hb).trans (hcell 0 _ rfl)
      have h1 := (hbl.cell (p := ⟨b, off + (i * 3 + 1), none⟩) hb).trans (hcell 1 _ rfl)
      have h2 := (hbl.cell (p := ⟨b, off + (i * 3 + 2), none⟩) hb).trans (hcell 2 _ rfl)
      simp only [Nat.add_zero, ← Nat.add_assoc] at h0 h1 h2
      have HROWS := Lib.hid (fun (k : Nat) (z : Sym) (hz : C.symbols[k]? = some z) (wx : World) (hwx : Below w.heap.size w wx) => HS.out k z hz)
      obtain ⟨_, _, hat⟩ := hxo
      simp only at hnm hat
      skip
      have HSS : Hid (SymS w (wr.alloc (.cells #[.int .u8 kd, .int .i64 at_, .string nm] 155)) w.heap.size wr.heap.size #[.int .i64 C.max, .slice Ai ni ci, .slice Al nl cl, .slice Ao no co, .slice Ab nb cb, .slice Ac nc cc, .slice Aj nj cj, .slice Af nf cf, Va, .slice (some ⟨b, off, none⟩) n cS, Vt] kd at_ nm) := Lib.hid ⟨hbl.alloc hbl.size _, hbx.alloc _, Blk.new _ _ _⟩
      obtain ⟨g0, g1, g2, g3, g4, g5, g6, g7, g8, g9, g10⟩ := rbox_of HSS.out.box
      have s0 := HSS.out.sym.cell 0
      have s1 := HSS.out.sym.cell 1
      have s2 := HSS.out.sym.cell 2
      simp only [List.getElem?_toArray, List.getElem?_cons_zero, List.getElem?_cons_succ] at s0 s1 s2
      have hwz : w.heap.size < wr.heap.size := Blk.lt hbx
      have hk0 : (0 : Int) ≤ (i : Int) := by omega
      have hk1 : (i : Int) < (n : Int) := by omega
      clear hx hcell hbl hbx
      go_upto_block 2 with fail
      go_cut [6] (fun v6 wx => ∃ c : Int, v6 = .int .i64 c ∧ (0 ≤ at_ → decide (at_ < c) = decide (at_ < countF C kd)) ∧ wx = wr.alloc (.cells #[.int .u8 kd, .int .i64 at_, .string nm] 155))
      case first =>
        have hx : kd = 105 ∨ kd = 108 ∨ kd = 111 ∨ kd = 98 ∨ kd = 99 ∨ kd = 106 ∨ kd = 102 ∨ (kd ≠ 105 ∧ kd ≠ 108 ∧ kd ≠ 111 ∧ kd ≠ 98 ∧ kd ≠ 99 ∧ kd ≠ 106 ∧ kd ≠ 102) := by omega
        rcases hx with rfl | rfl | rfl | rfl | rfl | rfl | rfl | ⟨e1, e2, e3, e4, e5, e6, e7⟩
        case inr.inr.inr.inr.inr.inr.inr =>
          have e : countF C kd = 0 := by rw [HCF.out]; rw [if_neg e1, if_neg e2, if_neg e3, if_neg e4, if_neg e5, if_neg e6, if_neg e7]
          have E := Lib.hid e
          have p1 : (kd == 105) = false := by simpa using e1
          have p2 : (kd == 108) = false := by simpa using e2
          have p3 : (kd == 111) = false := by simpa using e3
          have p4 : (kd == 98) = false := by simpa using e4
          have p5 : (kd == 99) = false := by simpa using e5
          have p6 : (kd == 106) = false := by simpa using e6
          have p7 : (kd == 102) = false := by simpa using e7
          clear e e1 e2 e3 e4 e5 e6 e7
          go_wp2
          go_meet
          case rel => exact ⟨-1, rfl, fun h => by rw [E.out, decide_eq_false (by omega), decide_eq_false (by omega)], rfl⟩
        all_goals
          go_wp2
          go_meet
          case rel => exact ⟨_, rfl, fun h => by rw [HCF.out]; simp, rfl⟩
      case rest =>
        obtain ⟨c, rfl, hdec, rfl⟩ := hcut
        obtain ⟨cnt, hcnt⟩ : ∃ cnt, countF C kd = cnt := ⟨_, rfl⟩
        rw [hcnt] at hdec
        have HCT := Lib.hid hcnt
        have HDEC := Lib.hid hdec
        clear hcnt hdec
        clear c0 c1 c2 c3 c4 c5 c6 c7 c8 c9 c10 h0 h1 h2
        generalize hwS : wr.alloc (.cells #[.int .u8 kd, .int .i64 at_, .string nm] 155) = wS at *
        clear hwS
        generalize hgs : wr.heap.size = gs at *
        clear hgs
        go_upto_region 21 with (fail)
        go_cut [7] (fun v7 wx => v7 = .bool (decide (0 ≤ at_) && (decide (at_ < cnt) && decide (1 ≤ nm.size ∧ nm.size ≤ 64))) ∧ wx = wS)
        case first =>
          by_cases a0 : at_ < 0
          · have a1 : decide (0 ≤ at_) = false := decide_eq_false (by omega)
            go_wp2
            go_meet
            case rel => exact ⟨by rw [a1]; rfl, rfl⟩
          · have a1 : (0 : Int) ≤ at_ := by omega
            have hd := HDEC.out a1
            by_cases b0 : at_ < c
            · have hcn : decide (at_ < cnt) = true := by rw [← hd]; exact decide_eq_true b0
              have HCNT := Lib.hid hcn
              clear hcn hd
              by_cases n0 : 1 ≤ nm.size
              · have n1 : (1 : Int) ≤ (nm.size : Int) := by omega
                by_cases n2 : nm.size ≤ 64
                · have n3 : (nm.size : Int) ≤ 64 := by omega
                  go_wp2
                  go_meet
                  case rel => exact ⟨by rw [HCNT.out, decide_eq_true a1, decide_eq_true (And.intro n0 n2)]; rfl, rfl⟩
                · have n3 : decide ((nm.size : Int) ≤ 64) = false := decide_eq_false (by omega)
                  go_wp2
                  go_meet
                  case rel => exact ⟨by rw [decide_eq_false (show ¬ (1 ≤ nm.size ∧ nm.size ≤ 64) by omega)]; simp, rfl⟩
              · have n1 : decide ((1 : Int) ≤ (nm.size : Int)) = false := decide_eq_false (by omega)
                go_wp2
                go_meet
                case rel => exact ⟨by rw [decide_eq_false (show ¬ (1 ≤ nm.size ∧ nm.size ≤ 64) by omega)]; simp, rfl⟩
            · have b1 : decide (at_ < c) = false := decide_eq_false b0
              have hcn : decide (at_ < cnt) = false := by rw [← hd]; exact b1
              have HCNT := Lib.hid hcn
              clear hcn hd
              go_wp2
              go_meet
              case rel => exact ⟨by rw [HCNT.out]; simp, rfl⟩
        case rest =>
          obtain ⟨rfl, rfl⟩ := hcut
          clear g0 g1 g2 g3 g4 g5 g6 g7 g8 g9 g10 s0 s1 s2
          obtain ⟨bo, hbo⟩ : ∃ bo, (decide (0 ≤ at_) && (decide (at_ < cnt) && decide (1 ≤ nm.size ∧ nm.size ≤ 64))) = bo := ⟨_, rfl⟩
          rw [hbo]
          have HBOO := Lib.hid hbo
          clear hbo
          go_wp2
          go_loopg [7, 8] nm.size (fun j ov kv wx => ∃ (k : Nat) (o : Bool), k ≤ nm.size ∧ kv = .int .i64 k ∧ ov = .bool o ∧ j = nm.size - k ∧ o = (bo && lowAll nm k) ∧ SymS w wx w.heap.size gs #[.int .i64 C.max, .slice Ai ni ci, .slice Al nl cl, .slice Ao no co, .slice Ab nb cb, .slice Ac nc cc, .slice Aj nj cj, .slice Af nf cf, Va, .slice (some ⟨b, off, none⟩) n cS, Vt] kd at_ nm)
          case atStart => exact ⟨0, bo, Nat.zero_le _, rfl, rfl, rfl, by simp [lowAll], HSS.out⟩
          case round =>
            obtain ⟨k, o, hk, rfl, rfl, hgk, hoe, hst⟩ := hrel
            subst hgk
            have HOE := Lib.hid hoe
            have HST := Lib.hid hst
            have s2 := HST.out.sym.cell 2
            simp only [List.getElem?_toArray, List.getElem?_cons_zero, List.getElem?_cons_succ] at s2
            clear hoe hst HSS
            have HEND : Hid (¬ (o = true ∧ k < nm.size) → o = (bo && lowAll nm nm.size)) := Lib.hid (fun hne => by
              cases ho : o
              · rw [ho] at HOE
                have h1 := HOE.out
                cases hb : bo
                · rfl
                · rw [hb] at h1
                  simp only [Bool.true_and] at h1 ⊢
                  have : lowAll nm nm.size = false := by
                    unfold lowAll at h1 ⊢
                    rw [eq_comm, List.all_eq_false] at h1
                    rw [List.all_eq_false]
                    obtain ⟨y, hy, hy2⟩ := h1
                    refine ⟨y, ?_, hy2⟩
                    have hsub : nm.data.toList.take k = (nm.data.toList.take nm.size).take k := by rw [List.take_take, Nat.min_eq_left hk]
                    rw [hsub] at hy
                    exact List.mem_of_mem_take hy
                  exact this.symm
              · have : k = nm.size := by
                  rcases Nat.lt_or_ge k nm.size with h | h
                  · exact absurd ⟨ho, h⟩ hne
                  · omega
                rw [← this, ← HOE.out, ho])
            by_cases hgo : o = true ∧ k < nm.size
            · obtain ⟨rfl, hk2⟩ := hgo
              have h1 : (k : Int) < (nm.size : Int) := by omega
              have h3 : (0 : Int) ≤ (k : Int) := by omega
              by_cases hl : 32 ≤ nm[k].toNat
              · have HLW : Hid (decide (32 ≤ nm[k].toNat) = true) := Lib.hid (decide_eq_true hl)
                have h4 : (32 : Int) ≤ (nm[k].toNat : Int) := by omega
                clear hl
                go_wp2
                go_roundg (nm.size - (k + 1))
                case measure => omega
                case rel => exact ⟨k + 1, true, by omega, by go_num, by simp, rfl, by rw [lowAll_snoc hk2, HLW.out, Bool.and_true]; exact HOE.out, HST.out⟩
              · have HLW : Hid (decide (32 ≤ nm[k].toNat) = false) := Lib.hid (decide_eq_false hl)
                have h4 : decide ((32 : Int) ≤ (nm[k].toNat : Int)) = false := decide_eq_false (by omega)
                clear hl
                go_wp2
                go_roundg (nm.size - (k + 1))
                case measure => omega
                case rel => exact ⟨k + 1, false, by omega, by go_num, by first | rfl | simp [h4], rfl, by rw [lowAll_snoc hk2, HLW.out, Bool.and_false, Bool.and_false], HST.out⟩
            · have hoe2 := HEND.out hgo
              have HOF := Lib.hid hoe2
              clear hoe2 HEND
              obtain ⟨r1, hr1⟩ : ∃ r1, (bo && lowAll nm nm.size) = r1 := ⟨_, rfl⟩
              rw [hr1] at HOF
              have HR1 := Lib.hid hr1
              have HSY : Hid (symB C (psK C i) ⟨kd, at_, nm⟩ = (r1 && !((psK C i).contains (kd, at_)))) := Lib.hid (by
                unfold symB
                simp only
                rw [nameB_all, HCT.out, ← hr1, ← HBOO.out, Bool.and_comm]
                simp only [Bool.and_assoc])
              clear hr1
              cases o
              · have hq0 : True := trivial
                go_wp2
                go_loopg [7, 9] i (fun j ov kv wx => ∃ (q : Nat) (o : Bool), q ≤ i ∧ kv = .int .i64 q ∧ ov = .bool o ∧ j = i - q ∧ o = (r1 && !((psK C q).contains (kd, at_))) ∧ SymS w wx w.heap.size gs #[.int .i64 C.max, .slice Ai ni ci, .slice Al nl cl, .slice Ao no co, .slice Ab nb cb, .slice Ac nc cc, .slice Aj nj cj, .slice Af nf cf, Va, .slice (some ⟨b, off, none⟩) n cS, Vt] kd at_ nm)
                case atStart => exact ⟨0, false, Nat.zero_le _, rfl, rfl, rfl, by rw [HOF.out]; simp [psK_zero], HST.out⟩
                case round =>
                  obtain ⟨q, o2, hq, rfl, rfl, hgk, hoe, hst⟩ := hrel
                  subst hgk
                  have HOE2 := Lib.hid hoe
                  have HST2 := Lib.hid hst
                  clear hoe hst HST
                  obtain ⟨g0, g1, g2, g3, g4, g5, g6, g7, g8, g9, g10⟩ := rbox_of HST2.out.box
                  have s0 := HST2.out.sym.cell 0
                  have s1 := HST2.out.sym.cell 1
                  simp only [List.getElem?_toArray, List.getElem?_cons_zero, List.getElem?_cons_succ] at s0 s1
                  have HEND2 : Hid (¬ (o2 = true ∧ q < i) → o2 = symB C (psK C i) ⟨kd, at_, nm⟩) := Lib.hid (fun hne => by
                    rw [HSY.out]
                    cases ho : o2
                    · rw [ho] at HOE2
                      have h1 := HOE2.out
                      cases hb : r1
                      · rfl
                      · rw [hb] at h1
                        simp only [Bool.true_and] at h1 ⊢
                        have hc : (psK C q).contains (kd, at_) = true := by simpa using h1.symm
                        have hm : (kd, at_) ∈ psK C q := by simpa using hc
                        have hm2 : (kd, at_) ∈ psK C i := by
                          unfold psK at hm ⊢
                          rw [List.mem_reverse] at hm ⊢
                          obtain ⟨s, hs, he⟩ := List.mem_map.1 hm
                          refine List.mem_map.2 ⟨s, ?_, he⟩
                          have hsub : C.symbols.take q = (C.symbols.take i).take q := by rw [List.take_take, Nat.min_eq_left hq]
                          rw [hsub] at hs
                          exact List.mem_of_mem_take hs
                        have : (psK C i).contains (kd, at_) = true := by simpa using hm2
                        rw [this]; rfl
                    · have : q = i := by
                        rcases Nat.lt_or_ge q i with h | h
                        · exact absurd ⟨ho, h⟩ hne
                        · omega
                      rw [← this, ← HOE2.out, ho])
                  by_cases hgo : o2 = true ∧ q < i
                  · obtain ⟨rfl, hq2⟩ := hgo
                    have h1 : (q : Int) < (i : Int) := by omega
                    have h3 : (0 : Int) ≤ (q : Int) := by omega
                    have h5 : (q : Int) < (n : Int) := by omega
                    obtain ⟨y, hy⟩ : ∃ y, C.symbols[q]? = some y := ⟨_, List.getElem?_eq_getElem (by rw [HN.out]; omega)⟩
                    obtain ⟨b', off', eA', hb', hcell'⟩ := HS.out q y hy
                    injection eA' with eA'
                    injection eA' with e1 e2 e3
                    subst e1 e2
                    have HY := Lib.hid hy
                    obtain ⟨kq, aq, nq'⟩ := y
                    have y0 := (HST2.out.below.cell (p := ⟨b, off + (q * 3 + 0), none⟩) hb').trans (hcell' 0 _ rfl)
                    have y1 := (HST2.out.below.cell (p := ⟨b, off + (q * 3 + 1), none⟩) hb').trans (hcell' 1 _ rfl)
                    simp only [Nat.add_zero, ← Nat.add_assoc] at y0 y1
                    have HPS : Hid ((psK C (q + 1)).contains (kd, at_) = (((kd, at_) == (kq, aq)) || (psK C q).contains (kd, at_))) := Lib.hid (by rw [psK_snoc HY.out, List.contains_cons])
                    clear hy hcell'
                    by_cases k0 : kq = kd
                    · subst k0
                      have k1 : (kq == kq) = true := by simp
                      have k2 : (kq != kq) = false := by simp
                      by_cases t0 : aq = at_
                      · subst t0
                        have HNX : Hid (false = (r1 && !((psK C (q + 1)).contains (kq, aq)))) := Lib.hid (by rw [HPS.out]; simp)
                        have t1 : (aq == aq) = true := by simp
                        have t2 : (aq != aq) = false := by simp
                        go_wp2
                        go_quiet (fail)
                        go_wp2
                        go_roundg (i - (q + 1))
                        case measure => omega
                        case rel => exact ⟨q + 1, false, by omega, by go_num, by first | rfl | simp, rfl, HNX.out, HST2.out.drewN nq⟩
                      · have HNX : Hid (true = (r1 && !((psK C (q + 1)).contains (kq, at_)))) := Lib.hid (by
                          rw [HPS.out]
                          have : ((kq, at_) == (kq, aq)) = false := by
                            rw [beq_eq_false_iff_ne]
                            intro e
                            injection e with _ e
                            exact t0 e.symm
                          rw [this, Bool.false_or]
                          exact HOE2.out)
                        have t1 : (aq == at_) = false := by simpa using t0
                        have t2 : (aq != at_) = true := by simpa using t0
                        clear t0
                        go_wp2
                        go_quiet (fail)
                        go_wp2
                        go_roundg (i - (q + 1))
                        case measure => omega
                        case rel => exact ⟨q + 1, true, by omega, by go_num, by first | rfl | simp, rfl, HNX.out, HST2.out.drewN nq⟩
                    · have HNX : Hid (true = (r1 && !((psK C (q + 1)).contains (kd, at_)))) := Lib.hid (by
                        rw [HPS.out]
                        have : ((kd, at_) == (kq, aq)) = false := by
                          rw [beq_eq_false_iff_ne]
                          intro e
                          injection e with e _
                          exact k0 e.symm
                        rw [this, Bool.false_or]
                        exact HOE2.out)
                      have t1 : (kq == kd) = false := by simpa using k0
                      have t2 : (kq != kd) = true := by simpa using k0
                      clear k0
                      go_wp2
                      go_quiet (fail)
                      go_wp2
                      go_roundg (i - (q + 1))
                      case measure => omega
                      case rel => exact ⟨q + 1, true, by omega, by go_num, by first | rfl | simp, rfl, HNX.out, HST2.out.drewN nq⟩
                  · have hoe2 := HEND2.out hgo
                    have HOF2 := Lib.hid hoe2
                    clear hoe2 HEND2
                    cases o2
                    · have HFI := Lib.hid (symAll_stop (C := C) HX.out HOF2.out.symm)
                      clear hgo
                      go_wp2
                      go_ret2
                      exact ⟨ret_sym (HR.out.symm.trans (HALL.out.trans HFI.out)), HST2.out.below⟩
                    · have HFI := Lib.hid (symAll_step (C := C) HX.out HOF2.out.symm)
                      have hqi : ¬ (q : Int) < (i : Int) := by
                        intro h
                        exact hgo ⟨rfl, by omega⟩
                      clear hgo
                      go_wp2
                      go_roundg (n - (i + 1))
                      case measure => omega
                      case rel => exact ⟨i + 1, by omega, by go_num, rfl, by rw [HALL.out, HFI.out, psK_snoc HX.out], HST2.out.below, HST2.out.box⟩
              · have hq0 : ¬ (k : Int) < (nm.size : Int) := by
                  intro h
                  exact hgo ⟨rfl, by omega⟩
                go_wp2
                go_loopg [7, 9] i (fun j ov kv wx => ∃ (q : Nat) (o : Bool), q ≤ i ∧ kv = .int .i64 q ∧ ov = .bool o ∧ j = i - q ∧ o = (r1 && !((psK C q).contains (kd, at_))) ∧ SymS w wx w.heap.size gs #[.int .i64 C.max, .slice Ai ni ci, .slice Al nl cl, .slice Ao no co, .slice Ab nb cb, .slice Ac nc cc, .slice Aj nj cj, .slice Af nf cf, Va, .slice (some ⟨b, off, none⟩) n cS, Vt] kd at_ nm)
                case atStart => exact ⟨0, true, Nat.zero_le _, rfl, rfl, rfl, by rw [HOF.out]; simp [psK_zero], HST.out⟩
                case round =>
                  obtain ⟨q, o2, hq, rfl, rfl, hgk, hoe, hst⟩ := hrel
                  subst hgk
                  have HOE2 := Lib.hid hoe
                  have HST2 := Lib.hid hst
                  clear hoe hst HST
                  obtain ⟨g0, g1, g2, g3, g4, g5, g6, g7, g8, g9, g10⟩ := rbox_of HST2.out.box
                  have s0 := HST2.out.sym.cell 0
                  have s1 := HST2.out.sym.cell 1
                  simp only [List.getElem?_toArray, List.getElem?_cons_zero, List.getElem?_cons_succ] at s0 s1
                  have HEND2 : Hid (¬ (o2 = true ∧ q < i) → o2 = symB C (psK C i) ⟨kd, at_, nm⟩) := Lib.hid (fun hne => by
                    rw [HSY.out]
                    cases ho : o2
                    · rw [ho] at HOE2
                      have h1 := HOE2.out
                      cases hb : r1
                      · rfl
                      · rw [hb] at h1
                        simp only [Bool.true_and] at h1 ⊢
                        have hc : (psK C q).contains (kd, at_) = true := by simpa using h1.symm
                        have hm : (kd, at_) ∈ psK C q := by simpa using hc
                        have hm2 : (kd, at_) ∈ psK C i := by
                          unfold psK at hm ⊢
                          rw [List.mem_reverse] at hm ⊢
                          obtain ⟨s, hs, he⟩ := List.mem_map.1 hm
                          refine List.mem_map.2 ⟨s, ?_, he⟩
                          have hsub : C.symbols.take q = (C.symbols.take i).take q := by rw [List.take_take, Nat.min_eq_left hq]
                          rw [hsub] at hs
                          exact List.mem_of_mem_take hs
                        have : (psK C i).contains (kd, at_) = true := by simpa using hm2
                        rw [this]; rfl
                    · have : q = i := by
                        rcases Nat.lt_or_ge q i with h | h
                        · exact absurd ⟨ho, h⟩ hne
                        · omega
                      rw [← this, ← HOE2.out, ho])
                  by_cases hgo : o2 = true ∧ q < i
                  · obtain ⟨rfl, hq2⟩ := hgo
                    have h1 : (q : Int) < (i : Int) := by omega
                    have h3 : (0 : Int) ≤ (q : Int) := by omega
                    have h5 : (q : Int) < (n : Int) := by omega
                    obtain ⟨y, hy⟩ : ∃ y, C.symbols[q]? = some y := ⟨_, List.getElem?_eq_getElem (by rw [HN.out]; omega)⟩
                    obtain ⟨b', off', eA', hb', hcell'⟩ := HS.out q y hy
                    injection eA' with eA'
                    injection eA' with e1 e2 e3
                    subst e1 e2
                    have HY := Lib.hid hy
                    obtain ⟨kq, aq, nq'⟩ := y
                    have y0 := (HST2.out.below.cell (p := ⟨b, off + (q * 3 + 0), none⟩) hb').trans (hcell' 0 _ rfl)
                    have y1 := (HST2.out.below.cell (p := ⟨b, off + (q * 3 + 1), none⟩) hb').trans (hcell' 1 _ rfl)
                    simp only [Nat.add_zero, ← Nat.add_assoc] at y0 y1
                    have HPS : Hid ((psK C (q + 1)).contains (kd, at_) = (((kd, at_) == (kq, aq)) || (psK C q).contains (kd, at_))) := Lib.hid (by rw [psK_snoc HY.out, List.contains_cons])
                    clear hy hcell'
                    by_cases k0 : kq = kd
                    · subst k0
                      have k1 : (kq == kq) = true := by simp
                      have k2 : (kq != kq) = false := by simp
                      by_cases t0 : aq = at_
                      · subst t0
                        have HNX : Hid (false = (r1 && !((psK C (q + 1)).contains (kq, aq)))) := Lib.hid (by rw [HPS.out]; simp)
                        have t1 : (aq == aq) = true := by simp
                        have t2 : (aq != aq) = false := by simp
                        go_wp2
                        go_quiet (fail)
                        go_wp2
                        go_roundg (i - (q + 1))
                        case measure => omega
                        case rel => exact ⟨q + 1, false, by omega, by go_num, by first | rfl | simp, rfl, HNX.out, HST2.out.drewN nq⟩
                      · have HNX : Hid (true = (r1 && !((psK C (q + 1)).contains (kq, at_)))) := Lib.hid (by
                          rw [HPS.out]
                          have : ((kq, at_) == (kq, aq)) = false := by
                            rw [beq_eq_false_iff_ne]
                            intro e
                            injection e with _ e
                            exact t0 e.symm
                          rw [this, Bool.false_or]
                          exact HOE2.out)
                        have t1 : (aq == at_) = false := by simpa using t0
                        have t2 : (aq != at_) = true := by simpa using t0
                        clear t0
                        go_wp2
                        go_quiet (fail)
                        go_wp2
                        go_roundg (i - (q + 1))
                        case measure => omega
                        case rel => exact ⟨q + 1, true, by omega, by go_num, by first | rfl | simp, rfl, HNX.out, HST2.out.drewN nq⟩
                    · have HNX : Hid (true = (r1 && !((psK C (q + 1)).contains (kd, at_)))) := Lib.hid (by
                        rw [HPS.out]
                        have : ((kd, at_) == (kq, aq)) = false := by
                          rw [beq_eq_false_iff_ne]
                          intro e
                          injection e with e _
                          exact k0 e.symm
                        rw [this, Bool.false_or]
                        exact HOE2.out)
                      have t1 : (kq == kd) = false := by simpa using k0
                      have t2 : (kq != kd) = true := by simpa using k0
                      clear k0
                      go_wp2
                      go_quiet (fail)
                      go_wp2
                      go_roundg (i - (q + 1))
                      case measure => omega
                      case rel => exact ⟨q + 1, true, by omega, by go_num, by first | rfl | simp, rfl, HNX.out, HST2.out.drewN nq⟩
                  · have hoe2 := HEND2.out hgo
                    have HOF2 := Lib.hid hoe2
                    clear hoe2 HEND2
                    cases o2
                    · have HFI := Lib.hid (symAll_stop (C := C) HX.out HOF2.out.symm)
                      clear hgo
                      go_wp2
                      go_ret2
                      exact ⟨ret_sym (HR.out.symm.trans (HALL.out.trans HFI.out)), HST2.out.below⟩
                    · have HFI := Lib.hid (symAll_step (C := C) HX.out HOF2.out.symm)
                      have hqi : ¬ (q : Int) < (i : Int) := by
                        intro h
                        exact hgo ⟨rfl, by omega⟩
                      clear hgo
                      go_wp2
                      go_roundg (n - (i + 1))
                      case measure => omega
                      case rel => exact ⟨i + 1, by omega, by go_num, rfl, by rw [HALL.out, HFI.out, psK_snoc HX.out], HST2.out.below, HST2.out.box⟩
    · have : i = n := by omega
      subst this
      go_wp2
      go_ret2
      exact ⟨ret_sym (HR.out.symm.trans (HALL.out.trans (symAll_end (by rw [HN.out]; exact Nat.le_refl _)))), HBL.out⟩
end Go.Proofs.Ytdodhbfplglbkaa

namespace Go.Proofs.Ytdodhbfplglbkaa
open Go.RowKit

theorem hasNl_mem (s : ByteArray) : hasNl s = s.data.toList.contains 10 := (Lib.contains_iff_indexByte _ _).symm
theorem hasNl_at {s : ByteArray} {k : Nat} (hk : k < s.size) (h : s[k].toNat = 10) : hasNl s = true := by
  rw [hasNl_mem, List.contains_iff_mem]
  have hk' : k < s.data.toList.length := by rw [Array.length_toList]; exact hk
  have e : s.data.toList[k] = s[k] := rfl
  have e2 : s[k] = 10 := UInt8.toNat_inj.1 h
  rw [← e2, ← e]
  exact List.getElem_mem hk'
theorem hasNl_none {s : ByteArray} (h : ∀ (k : Nat) (hk : k < s.size), s[k].toNat ≠ 10) : hasNl s = false := by
  rw [hasNl_mem]
  cases hc : s.data.toList.contains 10
  · rfl
  · rw [List.contains_iff_mem] at hc
    obtain ⟨k, hk, he⟩ := List.mem_iff_getElem.1 hc
    have hk' : k < s.size := by rw [Array.length_toList] at hk; exact hk
    have e : s.data.toList[k] = s[k] := rfl
    exact absurd (by rw [← e, he]; rfl) (h k hk')

set_option maxHeartbeats 20000000 in
set_option maxRecDepth 100000 in
theorem rCheck_any (w : World) (V : CV) (C : Circ) (h : C.In w V) (ok : C.Ok) (htn : ∀ s ∈ C.comments, s.size ≤ maxLen) :
    Calls Try.prog 46 #[V.val C.max] w fun e w' => e = .returned (.tuple #[.int .i64 (checkR C).1, .int .i64 (checkR C).2]) ∧ Below w.heap.size w w' := by
  obtain ⟨AA, cA, eA, hal⟩ := len_form h.a
  obtain ⟨AT, cT, eT, htl⟩ := len_form h.t
  obtain ⟨Vi, Vl, Vo, Vb, Vc, Vj, Vf, Va, Vs, Vt⟩ := V
  simp only at eA eT
  subst eA eT
  obtain ⟨mz, hmz⟩ : ∃ mz, C.max = mz := ⟨_, rfl⟩
  have HMZ := Lib.hid hmz
  have HB := Lib.hid ((Below.refl w.heap.size w).alloc (Nat.le_refl _) (.cells #[.int .i64 mz, Vi, Vl, Vo, Vb, Vc, Vj, Vf, .slice AA C.ands.length cA, Vs, .slice AT C.comments.length cT] 29))
  obtain ⟨n, hn⟩ : ∃ n, C.ands.length = n := ⟨_, rfl⟩
  obtain ⟨nT, hnT⟩ : ∃ n, C.comments.length = n := ⟨_, rfl⟩
  rw [hn, hnT] at HB
  rw [hn, hnT] at h ⊢
  rw [hn] at hal
  rw [hnT] at htl
  have HN := Lib.hid hn
  have HNT := Lib.hid hnT
  rw [hmz]
  have HTN := Lib.hid htn
  unfold maxLen at hal htl
  have HIN : Hid (∀ wz, Below (w.alloc (.cells #[.int .i64 mz, Vi, Vl, Vo, Vb, Vc, Vj, Vf, .slice AA n cA, Vs, .slice AT nT cT] 29)).heap.size (w.alloc (.cells #[.int .i64 mz, Vi, Vl, Vo, Vb, Vc, Vj, Vf, .slice AA n cA, Vs, .slice AT nT cT] 29)) wz → C.In wz ⟨Vi, Vl, Vo, Vb, Vc, Vj, Vf, .slice AA n cA, Vs, .slice AT nT cT⟩) := Lib.hid (fun wz hb => (h.below HB.out).below hb)
  have HBX : Hid (∀ wz, Below (w.alloc (.cells #[.int .i64 mz, Vi, Vl, Vo, Vb, Vc, Vj, Vf, .slice AA n cA, Vs, .slice AT nT cT] 29)).heap.size (w.alloc (.cells #[.int .i64 mz, Vi, Vl, Vo, Vb, Vc, Vj, Vf, .slice AA n cA, Vs, .slice AT nT cT] 29)) wz → Blk wz w.heap.size 29 #[.int .i64 mz, Vi, Vl, Vo, Vb, Vc, Vj, Vf, .slice AA n cA, Vs, .slice AT nT cT]) := Lib.hid (fun wz hb => (Blk.new w _ _).below hb (by simp))
  have HX : Hid (Below (w.alloc (.cells #[.int .i64 mz, Vi, Vl, Vo, Vb, Vc, Vj, Vf, .slice AA n cA, Vs, .slice AT nT cT] 29)).heap.size (w.alloc (.cells #[.int .i64 mz, Vi, Vl, Vo, Vb, Vc, Vj, Vf, .slice AA n cA, Vs, .slice AT nT cT] 29)) (w.alloc (.cells #[.int .i64 mz, Vi, Vl, Vo, Vb, Vc, Vj, Vf, .slice AA n cA, Vs, .slice AT nT cT] 29))) := Lib.hid (Below.refl _ _)
  have HEND := Lib.hid (fun (wx : World) (hx : Below (w.alloc (.cells #[.int .i64 mz, Vi, Vl, Vo, Vb, Vc, Vj, Vf, .slice AA n cA, Vs, .slice AT nT cT] 29)).heap.size (w.alloc (.cells #[.int .i64 mz, Vi, Vl, Vo, Vb, Vc, Vj, Vf, .slice AA n cA, Vs, .slice AT nT cT] 29)) wx) => HB.out.trans (hx.mono (by simp)))
  have HSIZE := Lib.hid (fun (wx : World) (hx : C.In wx ⟨Vi, Vl, Vo, Vb, Vc, Vj, Vf, .slice AA n cA, Vs, .slice AT nT cT⟩) => rsize_any wx _ C hx)
  have HSYM := Lib.hid (fun (h16 : C.symbols.length ≤ 16384) (wx : World) (hx : C.In wx ⟨Vi, Vl, Vo, Vb, Vc, Vj, Vf, .slice AA n cA, Vs, .slice AT nT cT⟩) => rsymbols_any wx _ C hx ok h16)
  have HDEF0 := Lib.hid (fun (m : Nat) (hm : m ≤ 16384) (wx : World) (hx : C.In wx ⟨Vi, Vl, Vo, Vb, Vc, Vj, Vf, .slice AA n cA, Vs, .slice AT nT cT⟩) => rDefined_any wx _ C m hx ok hm)
  have HUSE0 := Lib.hid (fun (m : Nat) (hm : m ≤ 16384) (wx : World) (g : Nat) (tb : List Bool) (hx : C.In wx ⟨Vi, Vl, Vo, Vb, Vc, Vj, Vf, .slice AA n cA, Vs, .slice AT nT cT⟩) (ht : Tab wx g tb) (hl : tb.length = m + 1) => ruses_any wx _ C m hx ok g tb ht hl hm)
  have HTOLD0 := Lib.hid (fun (h0 : 0 ≤ C.max) (h1 : C.max ≤ 16384) (h2 : C.ands.length ≤ 16384) (h3 : ∀ z ∈ C.ands, FitT C.max z) (wx : World) (hx : C.In wx ⟨Vi, Vl, Vo, Vb, Vc, Vj, Vf, .slice AA n cA, Vs, .slice AT nT cT⟩) => rtold_any wx _ C hx h0 h1 h2 h3)
  have HGAT0 := Lib.hid (fun (h0 : 0 ≤ C.max) (h1 : C.max ≤ 16384) (h2 : C.ands.length ≤ 16384) (h3 : ∀ z ∈ C.ands, FitT C.max z) (wx : World) (hx : C.In wx ⟨Vi, Vl, Vo, Vb, Vc, Vj, Vf, .slice AA n cA, Vs, .slice AT nT cT⟩) => rgates_any wx _ C hx h0 h1 h2 h3)
  have HRND0 := Lib.hid (fun (h0 : 0 ≤ C.max) (h1 : C.max ≤ 16384) (h2 : C.ands.length ≤ 16384) (h3 : ∀ z ∈ C.ands, FitT C.max z) (wx : World) (gg a : Nat) (hx : C.In wx ⟨Vi, Vl, Vo, Vb, Vc, Vj, Vf, .slice AA n cA, Vs, .slice AT nT cT⟩) (hg : Nums wx gg (gateOf C)) (ha : a < C.ands.length) => rround_any wx _ C gg a hx h0 h1 h2 h3 hg ha)
  obtain ⟨rr, hrr⟩ : ∃ rr, checkR C = rr := ⟨_, rfl⟩
  have HRR := Lib.hid hrr
  rw [hrr]
  clear h ok htn hmz hn hnT hrr
  obtain ⟨s, hs⟩ : ∃ s, sizesE C = s := ⟨_, rfl⟩
  have HS := Lib.hid hs
  clear hs
  rw [HMZ.out] at HSIZE HSYM HTOLD0 HGAT0 HRND0
  by_cases s0 : s = 0
  · subst s0
    have hsz := sizes_ok HS.out
    obtain ⟨hm0, hm1, hna, hns⟩ := hsz
    have HSYM := Lib.hid (HSYM.out hns)
    rw [HMZ.out] at hm0 hm1
    obtain ⟨m, rfl⟩ : ∃ m : Nat, mz = (m : Int) := ⟨mz.toNat, by omega⟩
    have hm2 : m ≤ 16384 := by omega
    have HDEF := Lib.hid (HDEF0.out m hm2)
    have HUSE1 := Lib.hid (HUSE0.out m hm2)
    obtain ⟨tb0, htb0⟩ : ∃ tb, defR C (List.replicate (m + 1) false) = tb := ⟨_, rfl⟩
    obtain ⟨⟨d1, d2⟩, t⟩ := tb0
    have HD := Lib.hid htb0
    have htl0 : t.length = m + 1 := by
      have := defR_len C (List.replicate (m + 1) false)
      rw [htb0] at this
      simpa using this
    have HTL := Lib.hid htl0
    have HDT : Hid (defR C (tab0 C.max.toNat) = ((d1, d2), t.set 0 true)) := Lib.hid (by
      have := defR_tab0 C m
      rw [htb0] at this
      rw [HMZ.out, show ((m : Int)).toNat = m by omega]
      exact this)
    rw [HN.out] at hna
    clear htb0 htl0 hns hm0 hm1 HDEF0 HUSE0
    by_cases d0 : d2 = 0
    · subst d0
      obtain ⟨⟨u1, u2⟩, hu⟩ : ∃ u, usedR C (t.set 0 true) = u := ⟨_, rfl⟩
      have HU := Lib.hid hu
      clear hu
      have HUSE := Lib.hid (fun (wx : World) (g : Nat) (hx : C.In wx ⟨Vi, Vl, Vo, Vb, Vc, Vj, Vf, .slice AA n cA, Vs, .slice AT nT cT⟩) (ht : Tab wx g (t.set 0 true)) => by
        have h1 := HUSE1.out wx g (t.set 0 true) hx ht (by rw [List.length_set]; exact HTL.out)
        rw [show (t.set 0 true).length = m + 1 by rw [List.length_set]; exact HTL.out] at h1
        exact h1)
      clear HUSE1
      by_cases u0 : u2 = 0
      · subst u0
        have hfit : ∀ z ∈ C.ands, FitT C.max z := by
          refine fit_of (tb := tab0 C.max.toNat) (t2 := t.set 0 true) (by rw [HDT.out]) (by rw [HU.out]) ?_ ?_
          · rw [HMZ.out, tab0_len]; omega
          · rw [List.length_set, tab0_len, HMZ.out, HTL.out]; omega
        have hm0 : 0 ≤ C.max := by rw [HMZ.out]; omega
        have hm1 : C.max ≤ 16384 := by rw [HMZ.out]; omega
        have HTOLD := Lib.hid (HTOLD0.out (by rw [← HMZ.out]; exact hm0) (by rw [← HMZ.out]; exact hm1) (by rw [HN.out]; exact hna) (by rw [← HMZ.out]; exact hfit))
        have HGAT := Lib.hid (HGAT0.out (by rw [← HMZ.out]; exact hm0) (by rw [← HMZ.out]; exact hm1) (by rw [HN.out]; exact hna) (by rw [← HMZ.out]; exact hfit))
        have HRND := Lib.hid (HRND0.out (by rw [← HMZ.out]; exact hm0) (by rw [← HMZ.out]; exact hm1) (by rw [HN.out]; exact hna) (by rw [← HMZ.out]; exact hfit))
        have HUO := Lib.hid (usesC_ok hm0 hfit)
        have hUL := usesC_len C
        rw [HN.out] at hUL
        have HUL := Lib.hid hUL
        clear hfit hm0 hm1 HTOLD0 HGAT0 HRND0 hUL
        obtain ⟨f, hf⟩ : ∃ f, firstF (usesC C) = f := ⟨_, rfl⟩
        have HF := Lib.hid hf
        clear hf
        by_cases f0 : f = -1
        · subst f0
          have HLL : Hid (∀ L, Greedy (usesC C) L → (∀ y, ¬ Avail (usesC C) L y) → L.length = n) := Lib.hid (fun L hg ha => by
            have := (stuck_all HUO.out (by rw [HUL.out]; exact hna) hg ha).2 HF.out
            rw [HUL.out] at this
            exact this)
          obtain ⟨⟨y1, y2⟩, hy⟩ : ∃ y, symR C = y := ⟨_, rfl⟩
          have HY := Lib.hid hy
          clear hy
          obtain ⟨c0, c1, c2, c3, c4, c5, c6, c7, c8, c9, c10⟩ := rbox_of (HBX.out _ HX.out)
          by_cases h0 : y2 = 0
          · subst h0
            obtain ⟨cc, hc⟩ : ∃ c, commR C = c := ⟨_, rfl⟩
            have HCO := Lib.hid hc
            clear hc
            have HRS := Lib.hid (checkR_comm HS.out HDT.out rfl HU.out rfl HF.out HY.out rfl HCO.out)
            unfold commR at HCO
            go_enter Try.func46, Try.ntmps46
            go_upto_region 10 with (first | (go_at_call 94; refine (HSIZE.out _ (HIN.out _ HX.out)).mono ?_; rw [HS.out]; rintro e w1 ⟨rfl, hb⟩; have HXN := Lib.hid (bt HX.out (Nat.le_refl _) hb); clear hb HX; have HX := HXN; clear HXN; clear c0 c1 c2 c3 c4 c5 c6 c7 c8 c9 c10; obtain ⟨c0, c1, c2, c3, c4, c5, c6, c7, c8, c9, c10⟩ := rbox_of (HBX.out _ HX.out)) | (go_at_call 95; refine (HDEF.out _ (HIN.out _ HX.out)).mono ?_; rw [HD.out]; rintro e w1 ⟨v, rfl, hb, htb⟩; obtain ⟨g, rfl, htab⟩ := htb rfl; have HTB := Lib.hid htab; clear htab htb; have HXN := Lib.hid (bt HX.out (Nat.le_refl _) hb); clear hb HX; have HX := HXN; clear HXN; clear c0 c1 c2 c3 c4 c5 c6 c7 c8 c9 c10; obtain ⟨c0, c1, c2, c3, c4, c5, c6, c7, c8, c9, c10⟩ := rbox_of (HBX.out _ HX.out)) | (go_at_call 96; refine (HUSE.out _ g (HIN.out _ HX.out) HTB.out).mono ?_; rw [HU.out]; rintro e w1 ⟨rfl, hb⟩; have HXN := Lib.hid (bt HX.out (Nat.le_refl _) hb); clear hb HX; have HX := HXN; clear HXN; clear c0 c1 c2 c3 c4 c5 c6 c7 c8 c9 c10; obtain ⟨c0, c1, c2, c3, c4, c5, c6, c7, c8, c9, c10⟩ := rbox_of (HBX.out _ HX.out)))
            go_region_held3 (fun w' => w'.cell? ⟨w.heap.size, 0, none⟩ = some (.int .i64 m) ∧ w'.cell? ⟨w.heap.size, 1, none⟩ = some (Vi) ∧ w'.cell? ⟨w.heap.size, 2, none⟩ = some (Vl) ∧ w'.cell? ⟨w.heap.size, 3, none⟩ = some (Vo) ∧ w'.cell? ⟨w.heap.size, 4, none⟩ = some (Vb) ∧ w'.cell? ⟨w.heap.size, 5, none⟩ = some (Vc) ∧ w'.cell? ⟨w.heap.size, 6, none⟩ = some (Vj) ∧ w'.cell? ⟨w.heap.size, 7, none⟩ = some (Vf) ∧ w'.cell? ⟨w.heap.size, 8, none⟩ = some (.slice AA n cA) ∧ w'.cell? ⟨w.heap.size, 9, none⟩ = some (Vs) ∧ w'.cell? ⟨w.heap.size, 10, none⟩ = some (.slice AT nT cT)) (first | exact ⟨c0, c1, c2, c3, c4, c5, c6, c7, c8, c9, c10⟩ | exact rbox_of (HBX.out _ HX.out) | exact rbox_of (HBX.out _ HX.out.drew) | go_keep)
              (first
                | (go_at_call 97; refine (HTOLD.out _ (HIN.out _ HX.out.drew)).mono ?_; rintro e w5 ⟨v5, L, rfl, hown, hgr, hav, hb⟩; obtain ⟨Ao, co, rfl⟩ := own_slice hown; have hll := HLL.out L hgr hav; have HXN := Lib.hid (bt HX.out.drew (Nat.le_refl _) hb); clear hb HX; have HX := HXN; clear HXN hown hgr hav; clear c0 c1 c2 c3 c4 c5 c6 c7 c8 c9 c10; obtain ⟨c0, c1, c2, c3, c4, c5, c6, c7, c8, c9, c10⟩ := rbox_of (HBX.out _ HX.out)))
            rw [hll] at *
            have HLN : Hid True := Lib.hid trivial
            go_wp2_with (first | (go_at_call 100; refine (HSYM.out _ (HIN.out _ HX.out)).mono ?_; rw [HY.out]; rintro e w1 ⟨rfl, hb⟩; have HXN := Lib.hid (bt HX.out (Nat.le_refl _) hb); clear hb HX; have HX := HXN; clear HXN; clear c0 c1 c2 c3 c4 c5 c6 c7 c8 c9 c10; obtain ⟨c0, c1, c2, c3, c4, c5, c6, c7, c8, c9, c10⟩ := rbox_of (HBX.out _ HX.out)))
            have HXC := Lib.hid HX.out
            generalize hw1 : w1 = wc at *
            clear hw1
            go_loopg [14] nT (fun j iv wx => ∃ i : Nat, i ≤ nT ∧ iv = .int .i64 i ∧ j = nT - i ∧ wx = wc ∧ firstE commE C.comments 0 = firstE commE (C.comments.drop i) i)
            case atStart => exact ⟨0, Nat.zero_le _, rfl, rfl, rfl, rfl⟩
            case round =>
              obtain ⟨i, hi, rfl, hgk, rfl, hall⟩ := hrel
              subst hgk
              have HALL := Lib.hid hall
              clear hall
              by_cases hlt : i < nT
              · have hx := List.getElem?_eq_getElem (l := C.comments) (i := i) (by rw [HNT.out]; exact hlt)
                generalize C.comments[i]'(by rw [HNT.out]; exact hlt) = x at hx
                obtain ⟨A', c', eA', _, _, hrun⟩ := (HIN.out _ HXC.out).t
                injection eA' with g1 g2 g3
                subst g1
                clear g2 g3
                obtain ⟨b, off, rfl, hb, hcell⟩ := hrun i x hx
                have i0 := hcell 0 _ rfl
                simp only [Nat.mul_one, Nat.add_zero] at i0
                have hxl := HTN.out x (List.mem_of_getElem? hx)
                unfold maxLen at hxl
                have HX3 := Lib.hid hx
                have hk0 : (0 : Int) ≤ (i : Int) := by omega
                have hk1 : (i : Int) < (nT : Int) := by omega
                clear hx hcell hrun
                go_wp2
                go_loopg [15] x.size (fun j kv wx => ∃ k : Nat, k ≤ x.size ∧ kv = .int .i64 k ∧ j = x.size - k ∧ wx = wr ∧ ∀ (q : Nat) (hq : q < x.size), q < k → x[q].toNat ≠ 10)
                case atStart => exact ⟨0, Nat.zero_le _, rfl, rfl, rfl, fun q _ h => by omega⟩
                case round =>
                  obtain ⟨k, hk, rfl, hgk, rfl, hno⟩ := hrel
                  subst hgk
                  have HNO := Lib.hid hno
                  clear hno
                  by_cases hkl : k < x.size
                  · have h3 : (0 : Int) ≤ (k : Int) := by omega
                    have h4 : (k : Int) < (x.size : Int) := by omega
                    by_cases hten : x[k].toNat = 10
                    · have HC := Lib.hid (commE_yes (hasNl_at hkl hten))
                      have t1 : ((x[k].toNat : Int) == 10) = true := by rw [hten]; rfl
                      clear hten
                      go_wp2
                      go_ret2
                      have hs := firstE_stop HX3.out (f := commE) (by rw [HC.out]; decide)
                      rw [HC.out] at hs
                      exact ⟨ret_check (by rw [← HRR.out, HRS.out]; exact HCO.out.symm.trans (HALL.out.trans hs)), HEND.out _ HXC.out⟩
                    · have t1 : ((x[k].toNat : Int) == 10) = false := by simp; omega
                      have HTE := Lib.hid hten
                      clear hten
                      go_wp2
                      go_roundg (x.size - (k + 1))
                      case measure => omega
                      case rel => exact ⟨k + 1, by omega, by go_num, rfl, rfl, fun q hq h => by
                        rcases Nat.lt_or_ge q k with h2 | h2
                        · exact HNO.out q hq h2
                        · have : q = k := by omega
                          subst this
                          exact HTE.out⟩
                  · have HC := Lib.hid (commE_no (hasNl_none (s := x) (fun q hq => HNO.out q hq (by omega))))
                    have h4 : ¬ (k : Int) < (x.size : Int) := by omega
                    go_wp2
                    go_roundg (nT - (i + 1))
                    case measure => omega
                    case rel => exact ⟨i + 1, by omega, by go_num, rfl, rfl, by rw [HALL.out]; exact firstE_step HX3.out HC.out⟩
              · have hie : i = nT := by omega
                subst hie
                go_wp2
                go_ret2
                exact ⟨ret_check (by rw [← HRR.out, HRS.out]; exact HCO.out.symm.trans (HALL.out.trans (firstE_end (by rw [HNT.out]; exact Nat.le_refl _)))), HEND.out _ HXC.out⟩
          · have HRS := Lib.hid (checkR_sym HS.out HDT.out rfl HU.out rfl HF.out HY.out h0)
            have q1 : (y2 == 0) = false := by simpa using h0
            have q2 : (y2 != 0) = true := by simpa using h0
            clear h0
            go_enter Try.func46, Try.ntmps46
            go_upto_region 10 with (first | (go_at_call 94; refine (HSIZE.out _ (HIN.out _ HX.out)).mono ?_; rw [HS.out]; rintro e w1 ⟨rfl, hb⟩; have HXN := Lib.hid (bt HX.out (Nat.le_refl _) hb); clear hb HX; have HX := HXN; clear HXN; clear c0 c1 c2 c3 c4 c5 c6 c7 c8 c9 c10; obtain ⟨c0, c1, c2, c3, c4, c5, c6, c7, c8, c9, c10⟩ := rbox_of (HBX.out _ HX.out)) | (go_at_call 95; refine (HDEF.out _ (HIN.out _ HX.out)).mono ?_; rw [HD.out]; rintro e w1 ⟨v, rfl, hb, htb⟩; obtain ⟨g, rfl, htab⟩ := htb rfl; have HTB := Lib.hid htab; clear htab htb; have HXN := Lib.hid (bt HX.out (Nat.le_refl _) hb); clear hb HX; have HX := HXN; clear HXN; clear c0 c1 c2 c3 c4 c5 c6 c7 c8 c9 c10; obtain ⟨c0, c1, c2, c3, c4, c5, c6, c7, c8, c9, c10⟩ := rbox_of (HBX.out _ HX.out)) | (go_at_call 96; refine (HUSE.out _ g (HIN.out _ HX.out) HTB.out).mono ?_; rw [HU.out]; rintro e w1 ⟨rfl, hb⟩; have HXN := Lib.hid (bt HX.out (Nat.le_refl _) hb); clear hb HX; have HX := HXN; clear HXN; clear c0 c1 c2 c3 c4 c5 c6 c7 c8 c9 c10; obtain ⟨c0, c1, c2, c3, c4, c5, c6, c7, c8, c9, c10⟩ := rbox_of (HBX.out _ HX.out)))
            go_region_held3 (fun w' => w'.cell? ⟨w.heap.size, 0, none⟩ = some (.int .i64 m) ∧ w'.cell? ⟨w.heap.size, 1, none⟩ = some (Vi) ∧ w'.cell? ⟨w.heap.size, 2, none⟩ = some (Vl) ∧ w'.cell? ⟨w.heap.size, 3, none⟩ = some (Vo) ∧ w'.cell? ⟨w.heap.size, 4, none⟩ = some (Vb) ∧ w'.cell? ⟨w.heap.size, 5, none⟩ = some (Vc) ∧ w'.cell? ⟨w.heap.size, 6, none⟩ = some (Vj) ∧ w'.cell? ⟨w.heap.size, 7, none⟩ = some (Vf) ∧ w'.cell? ⟨w.heap.size, 8, none⟩ = some (.slice AA n cA) ∧ w'.cell? ⟨w.heap.size, 9, none⟩ = some (Vs) ∧ w'.cell? ⟨w.heap.size, 10, none⟩ = some (.slice AT nT cT)) (first | exact ⟨c0, c1, c2, c3, c4, c5, c6, c7, c8, c9, c10⟩ | exact rbox_of (HBX.out _ HX.out) | exact rbox_of (HBX.out _ HX.out.drew) | go_keep)
              (first
                | (go_at_call 97; refine (HTOLD.out _ (HIN.out _ HX.out.drew)).mono ?_; rintro e w5 ⟨v5, L, rfl, hown, hgr, hav, hb⟩; obtain ⟨Ao, co, rfl⟩ := own_slice hown; have hll := HLL.out L hgr hav; have HXN := Lib.hid (bt HX.out.drew (Nat.le_refl _) hb); clear hb HX; have HX := HXN; clear HXN hown hgr hav; clear c0 c1 c2 c3 c4 c5 c6 c7 c8 c9 c10; obtain ⟨c0, c1, c2, c3, c4, c5, c6, c7, c8, c9, c10⟩ := rbox_of (HBX.out _ HX.out)))
            rw [hll] at *
            go_wp2_with (first | (go_at_call 100; refine (HSYM.out _ (HIN.out _ HX.out)).mono ?_; rw [HY.out]; rintro e w1 ⟨rfl, hb⟩; have HXN := Lib.hid (bt HX.out (Nat.le_refl _) hb); clear hb HX; have HX := HXN; clear HXN; clear c0 c1 c2 c3 c4 c5 c6 c7 c8 c9 c10; obtain ⟨c0, c1, c2, c3, c4, c5, c6, c7, c8, c9, c10⟩ := rbox_of (HBX.out _ HX.out)))
            go_ret2
            exact ⟨ret_check (by rw [← HRR.out, HRS.out]), HEND.out _ HX.out⟩
        · have HRS := Lib.hid (checkR_round HS.out HDT.out rfl HU.out rfl HF.out f0)
          have hcyc := firstF_some HUO.out (by rw [HUL.out]; exact hna) (by rw [HF.out]; exact f0)
          rw [HF.out, HUL.out] at hcyc
          have HLST : Hid (∀ x, InR n x → Cyc (usesC C) x → f ≤ x) := Lib.hid (fun x hx hc => by
            have := (firstF_least HUO.out (by rw [HUL.out]; exact hna) (by rw [HUL.out]; exact hx) hc).2
            rwa [HF.out] at this)
          have HLL : Hid (∀ L, Greedy (usesC C) L → (∀ y, ¬ Avail (usesC C) L y) → (L.length : Int) < (n : Int)) := Lib.hid (fun L hg ha => by
            have h1 := stuck_all HUO.out (by rw [HUL.out]; exact hna) hg ha
            have h2 := hg.len_le
            rw [HUL.out] at h1 h2
            have h3 : ¬ L.length = n := fun e => f0 (by rw [← HF.out]; exact h1.1 e)
            omega)
          have HCYC := Lib.hid hcyc
          clear hcyc f0
          obtain ⟨c0, c1, c2, c3, c4, c5, c6, c7, c8, c9, c10⟩ := rbox_of (HBX.out _ HX.out)
          go_enter Try.func46, Try.ntmps46
          go_upto_region 10 with (first | (go_at_call 94; refine (HSIZE.out _ (HIN.out _ HX.out)).mono ?_; rw [HS.out]; rintro e w1 ⟨rfl, hb⟩; have HXN := Lib.hid (bt HX.out (Nat.le_refl _) hb); clear hb HX; have HX := HXN; clear HXN; clear c0 c1 c2 c3 c4 c5 c6 c7 c8 c9 c10; obtain ⟨c0, c1, c2, c3, c4, c5, c6, c7, c8, c9, c10⟩ := rbox_of (HBX.out _ HX.out)) | (go_at_call 95; refine (HDEF.out _ (HIN.out _ HX.out)).mono ?_; rw [HD.out]; rintro e w1 ⟨v, rfl, hb, htb⟩; obtain ⟨g, rfl, htab⟩ := htb rfl; have HTB := Lib.hid htab; clear htab htb; have HXN := Lib.hid (bt HX.out (Nat.le_refl _) hb); clear hb HX; have HX := HXN; clear HXN; clear c0 c1 c2 c3 c4 c5 c6 c7 c8 c9 c10; obtain ⟨c0, c1, c2, c3, c4, c5, c6, c7, c8, c9, c10⟩ := rbox_of (HBX.out _ HX.out)) | (go_at_call 96; refine (HUSE.out _ g (HIN.out _ HX.out) HTB.out).mono ?_; rw [HU.out]; rintro e w1 ⟨rfl, hb⟩; have HXN := Lib.hid (bt HX.out (Nat.le_refl _) hb); clear hb HX; have HX := HXN; clear HXN; clear c0 c1 c2 c3 c4 c5 c6 c7 c8 c9 c10; obtain ⟨c0, c1, c2, c3, c4, c5, c6, c7, c8, c9, c10⟩ := rbox_of (HBX.out _ HX.out)))
          go_region_held3 (fun w' => w'.cell? ⟨w.heap.size, 0, none⟩ = some (.int .i64 m) ∧ w'.cell? ⟨w.heap.size, 1, none⟩ = some (Vi) ∧ w'.cell? ⟨w.heap.size, 2, none⟩ = some (Vl) ∧ w'.cell? ⟨w.heap.size, 3, none⟩ = some (Vo) ∧ w'.cell? ⟨w.heap.size, 4, none⟩ = some (Vb) ∧ w'.cell? ⟨w.heap.size, 5, none⟩ = some (Vc) ∧ w'.cell? ⟨w.heap.size, 6, none⟩ = some (Vj) ∧ w'.cell? ⟨w.heap.size, 7, none⟩ = some (Vf) ∧ w'.cell? ⟨w.heap.size, 8, none⟩ = some (.slice AA n cA) ∧ w'.cell? ⟨w.heap.size, 9, none⟩ = some (Vs) ∧ w'.cell? ⟨w.heap.size, 10, none⟩ = some (.slice AT nT cT)) (first | exact ⟨c0, c1, c2, c3, c4, c5, c6, c7, c8, c9, c10⟩ | exact rbox_of (HBX.out _ HX.out) | exact rbox_of (HBX.out _ HX.out.drew) | go_keep)
            (first
              | (go_at_call 97; refine (HTOLD.out _ (HIN.out _ HX.out.drew)).mono ?_; rintro e w5 ⟨v5, L, rfl, hown, hgr, hav, hb⟩; obtain ⟨Ao, co, rfl⟩ := own_slice hown; have hll := HLL.out L hgr hav; have HXN := Lib.hid (bt HX.out.drew (Nat.le_refl _) hb); clear hb HX; have HX := HXN; clear HXN hown hgr hav; clear c0 c1 c2 c3 c4 c5 c6 c7 c8 c9 c10; obtain ⟨c0, c1, c2, c3, c4, c5, c6, c7, c8, c9, c10⟩ := rbox_of (HBX.out _ HX.out)))
          go_wp2_with (first | (go_at_call 98; refine (HGAT.out _ (HIN.out _ HX.out)).mono ?_; rintro e w1 ⟨gg, rfl, hgg, hb, hnum⟩; have HNUM := Lib.hid hnum; clear hnum hgg; have HXN := Lib.hid (bt HX.out (Nat.le_refl _) hb); clear hb HX; have HX := HXN; clear HXN; clear c0 c1 c2 c3 c4 c5 c6 c7 c8 c9 c10; obtain ⟨c0, c1, c2, c3, c4, c5, c6, c7, c8, c9, c10⟩ := rbox_of (HBX.out _ HX.out)))
          have HXG := Lib.hid HX.out
          have HG0 := Lib.hid HNUM.out
          generalize hw1 : w1 = wg at *
          clear hw1
          go_loopg [11] n (fun j iv wx => ∃ i : Nat, i ≤ n ∧ iv = .int .i64 i ∧ j = n - i ∧ (∀ x : Int, 0 ≤ x → x < (i : Int) → ¬ Cyc (usesC C) x) ∧ Below wg.heap.size wg wx)
          case atStart => exact ⟨0, Nat.zero_le _, rfl, rfl, fun x h0 h1 => by omega, Below.refl _ _⟩
          case round =>
            obtain ⟨i, hi, rfl, hgk, hno, hbl⟩ := hrel
            subst hgk
            have HNO := Lib.hid hno
            have HBL := Lib.hid hbl
            clear hno hbl HX c0 c1 c2 c3 c4 c5 c6 c7 c8 c9 c10
            have HX := Lib.hid (bt HXG.out (Nat.le_refl _) HBL.out)
            obtain ⟨c0, c1, c2, c3, c4, c5, c6, c7, c8, c9, c10⟩ := rbox_of (HBX.out _ HX.out)
            by_cases hlt : i < n
            · have hrn := HRND.out wr gg i (HIN.out _ HX.out) (Blk.below HG0.out HBL.out (Blk.lt HG0.out)) (by rw [HN.out]; exact hlt)
              rw [show ((m : Int)).toNat = m by omega] at hrn
              have HRN := Lib.hid hrn
              clear hrn
              by_cases hfe : (i : Int) = f
              · have HTC : Hid (Cyc (usesC C) (i : Int)) := Lib.hid (by rw [hfe]; exact HCYC.out.2)
                have HFE := Lib.hid hfe
                clear hfe
                go_wp2_with (go_at_call 99; refine HRN.out.mono ?_; rintro e w6 ⟨bl, rfl, hbl, hb6⟩; have hbt := hbl.2 HTC.out; subst hbt; have HB6 := Lib.hid hb6; clear hb6 hbl)
                go_ret2
                exact ⟨ret_check (by rw [← HRR.out, HRS.out, HFE.out]), HEND.out _ (bt HX.out (Nat.le_refl _) HB6.out)⟩
              · have HNC : Hid (¬ Cyc (usesC C) (i : Int)) := Lib.hid (fun hc => by
                  have h1 := HLST.out (i : Int) ⟨by omega, by omega⟩ hc
                  rcases Int.lt_or_eq_of_le h1 with h2 | h2
                  · exact HNO.out f HCYC.out.1.1 h2 HCYC.out.2
                  · exact hfe h2.symm)
                clear hfe
                go_wp2_with (go_at_call 99; refine HRN.out.mono ?_; rintro e w6 ⟨bl, rfl, hbl, hb6⟩; have hbt : bl = false := (by cases bl; rfl; exact absurd (hbl.1 rfl) HNC.out); subst hbt; have HB6 := Lib.hid hb6; clear hb6 hbl)
                go_roundg (n - (i + 1))
                case measure => omega
                case rel => exact ⟨i + 1, by omega, by go_num, rfl, fun x h0 h1 => by
                  rcases Int.lt_or_le x (i : Int) with h2 | h2
                  · exact HNO.out x h0 h2
                  · have : x = (i : Int) := by omega
                    rw [this]; exact HNC.out, bt HBL.out (Nat.le_refl _) HB6.out⟩
            · exact absurd HCYC.out.2 (HNO.out f HCYC.out.1.1 (by have := HCYC.out.1.2; omega))
      · have HRS := Lib.hid (checkR_use HS.out HDT.out rfl HU.out u0)
        have q1 : (u2 == 0) = false := by simpa using u0
        have q2 : (u2 != 0) = true := by simpa using u0
        clear u0
        obtain ⟨c0, c1, c2, c3, c4, c5, c6, c7, c8, c9, c10⟩ := rbox_of (HBX.out _ HX.out)
        go_enter Try.func46, Try.ntmps46
        go_wp2_with (first | (go_at_call 94; refine (HSIZE.out _ (HIN.out _ HX.out)).mono ?_; rw [HS.out]; rintro e w1 ⟨rfl, hb⟩; have HXN := Lib.hid (bt HX.out (Nat.le_refl _) hb); clear hb HX; have HX := HXN; clear HXN; clear c0 c1 c2 c3 c4 c5 c6 c7 c8 c9 c10; obtain ⟨c0, c1, c2, c3, c4, c5, c6, c7, c8, c9, c10⟩ := rbox_of (HBX.out _ HX.out)) | (go_at_call 95; refine (HDEF.out _ (HIN.out _ HX.out)).mono ?_; rw [HD.out]; rintro e w1 ⟨v, rfl, hb, htb⟩; obtain ⟨g, rfl, htab⟩ := htb rfl; have HTB := Lib.hid htab; clear htab htb; have HXN := Lib.hid (bt HX.out (Nat.le_refl _) hb); clear hb HX; have HX := HXN; clear HXN; clear c0 c1 c2 c3 c4 c5 c6 c7 c8 c9 c10; obtain ⟨c0, c1, c2, c3, c4, c5, c6, c7, c8, c9, c10⟩ := rbox_of (HBX.out _ HX.out)) | (go_at_call 96; refine (HUSE.out _ g (HIN.out _ HX.out) HTB.out).mono ?_; rw [HU.out]; rintro e w1 ⟨rfl, hb⟩; have HXN := Lib.hid (bt HX.out (Nat.le_refl _) hb); clear hb HX; have HX := HXN; clear HXN; clear c0 c1 c2 c3 c4 c5 c6 c7 c8 c9 c10; obtain ⟨c0, c1, c2, c3, c4, c5, c6, c7, c8, c9, c10⟩ := rbox_of (HBX.out _ HX.out)))
        go_ret2
        exact ⟨ret_check (by rw [← HRR.out, HRS.out]), HEND.out _ HX.out⟩
    · have HRS := Lib.hid (checkR_def HS.out HDT.out d0)
      have q1 : (d2 == 0) = false := by simpa using d0
      have q2 : (d2 != 0) = true := by simpa using d0
      clear d0
      obtain ⟨c0, c1, c2, c3, c4, c5, c6, c7, c8, c9, c10⟩ := rbox_of (HBX.out _ HX.out)
      go_enter Try.func46, Try.ntmps46
      go_wp2_with (first | (go_at_call 94; refine (HSIZE.out _ (HIN.out _ HX.out)).mono ?_; rw [HS.out]; rintro e w1 ⟨rfl, hb⟩; have HXN := Lib.hid (bt HX.out (Nat.le_refl _) hb); clear hb HX; have HX := HXN; clear HXN; clear c0 c1 c2 c3 c4 c5 c6 c7 c8 c9 c10; obtain ⟨c0, c1, c2, c3, c4, c5, c6, c7, c8, c9, c10⟩ := rbox_of (HBX.out _ HX.out)) | (go_at_call 95; refine (HDEF.out _ (HIN.out _ HX.out)).mono ?_; rw [HD.out]; rintro e w1 ⟨v, rfl, hb, htb⟩; have HTB := Lib.hid htb; clear htb; have HXN := Lib.hid (bt HX.out (Nat.le_refl _) hb); clear hb HX; have HX := HXN; clear HXN; clear c0 c1 c2 c3 c4 c5 c6 c7 c8 c9 c10; obtain ⟨c0, c1, c2, c3, c4, c5, c6, c7, c8, c9, c10⟩ := rbox_of (HBX.out _ HX.out)))
      go_ret2
      exact ⟨ret_check (by rw [← HRR.out, HRS.out]), HEND.out _ HX.out⟩
  · have HRS := Lib.hid (checkR_size (by rw [HS.out]; exact s0))
    have q1 : (s == 0) = false := by simpa using s0
    have q2 : (s != 0) = true := by simpa using s0
    clear s0
    obtain ⟨c0, c1, c2, c3, c4, c5, c6, c7, c8, c9, c10⟩ := rbox_of (HBX.out _ HX.out)
    go_enter Try.func46, Try.ntmps46
    go_wp2_with (first | (go_at_call 94; refine (HSIZE.out _ (HIN.out _ HX.out)).mono ?_; rw [HS.out]; rintro e w1 ⟨rfl, hb⟩; have HXN := Lib.hid (bt HX.out (Nat.le_refl _) hb); clear hb HX; have HX := HXN; clear HXN; clear c0 c1 c2 c3 c4 c5 c6 c7 c8 c9 c10; obtain ⟨c0, c1, c2, c3, c4, c5, c6, c7, c8, c9, c10⟩ := rbox_of (HBX.out _ HX.out)))
    go_ret2
    exact ⟨ret_check (by rw [← HRR.out, HRS.out, HS.out]), HEND.out _ HX.out⟩
end Go.Proofs.Ytdodhbfplglbkaa

namespace Go.Proofs.Ytdodhbfplglbkaa
open Go.RowKit

/-- The least one that may come is always the next: there is one such order alone. -/
theorem greedy_same {uses : List (Int × Int)} : ∀ (n : Nat) {L M : List Int}, Greedy uses L → Greedy uses M → L.length = n → M.length = n → L = M
  | 0, L, M, _, _, hl, hm => by rw [List.eq_nil_of_length_eq_zero hl, List.eq_nil_of_length_eq_zero hm]
  | n + 1, L, M, hL, hM, hl, hm => by
    cases hL with
    | nil => simp at hl
    | snoc hL1 ha1 hle1 =>
      cases hM with
      | nil => simp at hm
      | snoc hM1 ha2 hle2 =>
        have e := greedy_same n hL1 hM1 (by simp at hl; exact hl) (by simp at hm; exact hm)
        subst e
        have h1 := hle1 _ ha2
        have h2 := hle2 _ ha1
        rw [Int.le_antisymm h1 h2]
end Go.Proofs.Ytdodhbfplglbkaa
