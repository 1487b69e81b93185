/- The contract of usesOf: of each gate the gates that it uses. -/
import Derived.Test.YtdodhbfplglbkaaCirc
import Derived.Laws.Tables
import Derived.Laws.MakeOwn
import Derived.Deep.RegionHeld3
namespace Go.Proofs.Ytdodhbfplglbkaa
open Go.RowKit

/-- A block of numbers of the call's own. -/
def Nums (w : World) (g : Nat) (L : List Int) : Prop := Blk w g 3 (L.map (Value.int .i64)).toArray
theorem Nums.cell {w : World} {g : Nat} {L : List Int} (h : Nums w g L) {i : Nat} {x : Int} (hx : L[i]? = some x) : w.cell? ⟨g, i, none⟩ = some (.int .i64 x) := by
  rw [Blk.cell h]; simp [hx]
theorem Nums.set_ {w : World} {g : Nat} {L : List Int} (h : Nums w g L) (i : Nat) (x : Int) : Nums (w.setCell ⟨g, i, none⟩ (.int .i64 x)) g (L.set i x) := by
  have := Blk.set_ h i (.int .i64 x)
  simpa [Nums, List.map_set] using this
abbrev encP (p : Int × Int) : List Value := [.int .i64 p.1, .int .i64 p.2]
theorem lenP (z : Int × Int) : (encP z).length = 2 := rfl
/-- A block of pairs of numbers. -/
def Prs (w : World) (g : Nat) (L : List (Int × Int)) : Prop := Blk w g 152 (L.flatMap encP).toArray
theorem Prs.cell {w : World} {g : Nat} {L : List (Int × Int)} (h : Prs w g L) {i : Nat} {p : Int × Int} (hx : L[i]? = some p) : w.cell? ⟨g, i * 2, none⟩ = some (.int .i64 p.1) ∧ w.cell? ⟨g, i * 2 + 1, none⟩ = some (.int .i64 p.2) := by
  have h0 := flat_get (enc := encP) (k := 2) lenP L i p hx 0 (by omega)
  have h1 := flat_get (enc := encP) (k := 2) lenP L i p hx 1 (by omega)
  rw [Blk.cell h, Blk.cell h]
  simp only [Nat.add_zero] at h0
  exact ⟨by simpa using h0, by simpa using h1⟩
theorem flat_set {L : List (Int × Int)} {i : Nat} {p : Int × Int} (h : i < L.length) : ((L.flatMap encP).set (i * 2) (.int .i64 p.1)).set (i * 2 + 1) (.int .i64 p.2) = (L.set i p).flatMap encP := by
  induction L generalizing i with
  | nil => simp at h
  | cons a r ih =>
    cases i with
    | zero => rfl
    | succ i =>
      have hr := ih (i := i) (by simpa using h)
      rw [List.flatMap_cons, List.set_cons_succ, List.flatMap_cons, ← hr, show (i + 1) * 2 = i * 2 + 1 + 1 by omega]
      rfl
theorem Prs.set_ {w : World} {g : Nat} {L : List (Int × Int)} (h : Prs w g L) {i : Nat} (hi : i < L.length) (p : Int × Int) : Prs ((w.setCell ⟨g, i * 2, none⟩ (.int .i64 p.1)).setCell ⟨g, i * 2 + 1, none⟩ (.int .i64 p.2)) g (L.set i p) := by
  have := Blk.set_ (Blk.set_ h (i * 2) (.int .i64 p.1)) (i * 2 + 1) (.int .i64 p.2)
  unfold Prs
  rw [← flat_set hi]
  simpa using this

/-- Of each variable the gate that it is the Out of. -/
def gateF : List Tri → Nat → List Int → List Int
  | [], _, G => G
  | z :: r, i, G => gateF r (i + 1) (G.set (z.1 / 2).toNat i)
theorem gateF_len : ∀ (zs : List Tri) (i : Nat) (G : List Int), (gateF zs i G).length = G.length
  | [], _, _ => rfl
  | z :: r, i, G => by rw [gateF, gateF_len]; simp
def gateOf (C : Circ) : List Int := gateF C.ands 0 (List.replicate (C.max.toNat + 1) (-1))
def useOf (G : List Int) (z : Tri) : Int × Int := (G.getD (z.2.1 / 2).toNat 0, G.getD (z.2.2 / 2).toNat 0)
def usesC (C : Circ) : List (Int × Int) := C.ands.map (useOf (gateOf C))
/-- A gate's three literals have variables up to the greatest one. -/
def FitT (m : Int) (z : Tri) : Prop := (0 ≤ z.1 ∧ z.1 / 2 ≤ m) ∧ (0 ≤ z.2.1 ∧ z.2.1 / 2 ≤ m) ∧ (0 ≤ z.2.2 ∧ z.2.2 / 2 ≤ m)

theorem int_info' : (Try.prog.info? 3).map (fun i => (i.zero, i.size, i.bytes)) = some (some (.int .i64 0), 1, 8) := by kernel_rfl
theorem pair_info : (Try.prog.info? 152).map (fun i => (i.zero, i.size, i.bytes)) = some (some (.agg #[.int .i64 0, .int .i64 0]), 2, 16) := by kernel_rfl
theorem info_of' {t : TypeId} {z : Value} {s b : Nat} (h : (Try.prog.info? t).map (fun i => (i.zero, i.size, i.bytes)) = some (some z, s, b)) : ∃ i, Try.prog.info? t = some i ∧ i.zero = some z ∧ i.size = s ∧ i.bytes = b := by
  cases hi : Try.prog.info? t with
  | none => rw [hi] at h; cases h
  | some i => rw [hi] at h; simp at h; exact ⟨i, rfl, h.1, h.2.1, h.2.2⟩
theorem make_ints (n : Nat) (h : n ≤ 1000000) (wx : World) : (Instr.makeSlice 22 (.int .i64 (n : Int)) (.int .i64 (n : Int))).run Try.prog wx = .ok (.slice (some ⟨wx.heap.size, 0, none⟩) n n) (wx.alloc (.cells (madeCells #[Value.int .i64 0] n) 3)) := by
  obtain ⟨i0, hi0, hz0, hz1, hz2⟩ := info_of' int_info'
  have := run_make (P := Try.prog) wx 22 3 i0 (.int .i64 0) Try.underlying22 hi0 hz0 .i64 .i64 n n (by omega) (by omega) (by rw [hz2]; omega) (by omega)
  rw [hz1] at this
  simpa [Value.cells] using this
theorem made_ints (n : Nat) : madeCells #[Value.int .i64 0] n = ((List.replicate n (0 : Int)).map (Value.int .i64)).toArray := by
  apply Array.toList_inj.1
  rw [toList_madeCells_one]; simp
theorem new_ints (w : World) (n : Nat) : Nums (w.alloc (.cells (madeCells #[Value.int .i64 0] n) 3)) w.heap.size (List.replicate n 0) := by
  unfold Nums; rw [← made_ints]; exact Blk.new _ _ _
theorem make_pairs (n : Nat) (h : n ≤ 1000000) (wx : World) : (Instr.makeSlice 115 (.int .i64 (n : Int)) (.int .i64 (n : Int))).run Try.prog wx = .ok (.slice (some ⟨wx.heap.size, 0, none⟩) n n) (wx.alloc (.cells (madeCells #[Value.int .i64 0, Value.int .i64 0] (n * 2)) 152)) := by
  obtain ⟨i0, hi0, hz0, hz1, hz2⟩ := info_of' pair_info
  have := run_make (P := Try.prog) wx 115 152 i0 (.agg #[.int .i64 0, .int .i64 0]) Try.underlying115 hi0 hz0 .i64 .i64 n n (by omega) (by omega) (by rw [hz2]; omega) (by omega)
  rw [hz1] at this
  simpa [Value.cells] using this
theorem made_two (n : Nat) : madeCells #[Value.int .i64 0, Value.int .i64 0] n = (List.replicate n (Value.int .i64 0)).toArray := by
  apply Array.toList_inj.1
  apply List.ext_getElem?
  intro j
  by_cases hj : j < n
  · have h2 : j % 2 = 0 ∨ j % 2 = 1 := by omega
    rcases h2 with h2 | h2 <;> simp [madeCells, hj, h2]
  · simp [madeCells, hj]
theorem made_pairs (n : Nat) : madeCells #[Value.int .i64 0, Value.int .i64 0] (n * 2) = ((List.replicate n ((0 : Int), (0 : Int))).flatMap encP).toArray := by
  rw [made_two]
  congr 1
  induction n with
  | zero => rfl
  | succ n ih => rw [List.replicate_succ (n := n), List.flatMap_cons, ← ih, Nat.succ_mul, List.replicate_succ, List.replicate_succ]; rfl
theorem new_pairs (w : World) (n : Nat) : Prs (w.alloc (.cells (madeCells #[Value.int .i64 0, Value.int .i64 0] (n * 2)) 152)) w.heap.size (List.replicate n (0, 0)) := by
  unfold Prs; rw [← made_pairs]; exact Blk.new _ _ _

theorem fill_set {m k : Nat} (h : k < m) : (List.replicate k (-1 : Int) ++ List.replicate (m - k) 0).set k (-1) = List.replicate (k + 1) (-1) ++ List.replicate (m - (k + 1)) 0 := by
  apply List.ext_getElem (by simp; omega)
  intro j h1 h2
  simp only [List.getElem_set, List.getElem_append, List.length_replicate, List.getElem_replicate]
  split <;> split <;> (try split) <;> first | rfl | omega
theorem fill_get {m k : Nat} (h : k < m) : (List.replicate k (-1 : Int) ++ List.replicate (m - k) 0)[k]? = some 0 := by
  rw [List.getElem?_append_right (by simp), List.length_replicate, Nat.sub_self, List.getElem?_replicate, if_pos (by omega)]
theorem gateF_step {zs : List Tri} {k : Nat} {z : Tri} {G : List Int} (h : zs[k]? = some z) : gateF (zs.drop k) k G = gateF (zs.drop (k + 1)) (k + 1) (G.set (z.1 / 2).toNat k) := by
  rw [drop_one h, gateF]
theorem gateF_end {zs : List Tri} {k : Nat} {G : List Int} (h : zs.length ≤ k) : gateF (zs.drop k) k G = G := by rw [drop_all h]; rfl
theorem build_two (a b : Int) (w : World) : (Instr.build 152 #[(0, .int .i64 a), (1, .int .i64 b)]).run Try.prog w = .ok (.agg #[.int .i64 a, .int .i64 b]) w := run_build w _ _ _ (by kernel_rfl)
theorem i64_small {x : Int} (h0 : 0 ≤ x) (h1 : x ≤ 1000000) : IntKind.i64.wrap x = x := by
  simp only [IntKind.wrap, IntKind.bits, IntKind.signed]; simp; omega
/-- The first k pairs are told. -/
def pairsK (zs : List Tri) (G : List Int) (k : Nat) : List (Int × Int) := (zs.take k).map (useOf G) ++ List.replicate (zs.length - k) (0, 0)
theorem pairsK_len {zs : List Tri} {G : List Int} {k : Nat} (h : k ≤ zs.length) : (pairsK zs G k).length = zs.length := by simp [pairsK]; omega
theorem pairsK_get {zs : List Tri} {G : List Int} {k : Nat} (h : k < zs.length) : (pairsK zs G k)[k]? = some (0, 0) := by
  unfold pairsK
  have hl : ((zs.take k).map (useOf G)).length = k := by simp; omega
  rw [List.getElem?_append_right (by omega), hl, Nat.sub_self, List.getElem?_replicate, if_pos (by omega)]
theorem set_mid {α : Type} (x y : α) (R : List α) : ∀ (A : List α) (k : Nat), A.length = k → (A ++ x :: R).set k y = A ++ y :: R
  | [], k, h => by subst h; rfl
  | a :: A, k, h => by
    subst h
    simp only [List.cons_append, List.length_cons, List.set_cons_succ]
    rw [set_mid x y R A A.length rfl]
theorem pairsK_set {zs : List Tri} {G : List Int} {k : Nat} {z : Tri} (h : zs[k]? = some z) : (pairsK zs G k).set k (useOf G z) = pairsK zs G (k + 1) := by
  obtain ⟨hk, rfl⟩ := List.getElem?_eq_some_iff.1 h
  unfold pairsK
  rw [List.take_add_one, List.getElem?_eq_getElem hk]
  have hl : ((zs.take k).map (useOf G)).length = k := by simp; omega
  rw [show zs.length - k = (zs.length - (k + 1)) + 1 by omega, List.replicate_succ, set_mid _ _ _ _ k hl, List.map_append, List.append_assoc]
  rfl
theorem pairsK_end {zs : List Tri} {G : List Int} : pairsK zs G zs.length = zs.map (useOf G) := by simp [pairsK]

structure Mid2 (w0 w : World) (bx g : Nat) (cs : Array Value) (G : List Int) : Prop where
  below : Below w0.heap.size w0 w
  box : Blk w bx 29 cs
  nums : Nums w g G
theorem Mid2.alloc {w0 w : World} {bx g : Nat} {cs : Array Value} {G : List Int} (h : Mid2 w0 w bx g cs G) (o : Obj) : Mid2 w0 (w.alloc o) bx g cs G :=
  ⟨h.below.alloc h.below.size o, h.box.alloc o, Blk.alloc h.nums o⟩
theorem Mid2.set_ {w0 w : World} {bx g : Nat} {cs : Array Value} {G : List Int} (h : Mid2 w0 w bx g cs G) (hg : w0.heap.size ≤ g) (hne : bx ≠ g) (i : Nat) (x : Int) : Mid2 w0 (w.setCell ⟨g, i, none⟩ (.int .i64 x)) bx g cs (G.set i x) :=
  ⟨h.below.setCell hg _, Blk.far h.box hne _, h.nums.set_ i x⟩

theorem Mid2.far {w0 w : World} {bx g : Nat} {cs : Array Value} {G : List Int} (h : Mid2 w0 w bx g cs G) {gp : Nat} (hg : w0.heap.size ≤ gp) (h1 : bx ≠ gp) (h2 : g ≠ gp) (i : Nat) (u : Value) : Mid2 w0 (w.setCell ⟨gp, i, none⟩ u) bx g cs G :=
  ⟨h.below.setCell hg _, Blk.far h.box h1 _, Blk.far h.nums h2 _⟩
theorem Mid2.drew {w0 w : World} {bx g : Nat} {cs : Array Value} {G : List Int} (h : Mid2 w0 w bx g cs G) : Mid2 w0 w.drew bx g cs G := ⟨below_drewN h.below 1, h.box, h.nums⟩
theorem size_two (w : World) (p q : Addr) (u v : Value) : ((w.setCell p u).setCell q v).heap.size = w.heap.size := by simp [World.setCell]

set_option maxHeartbeats 4000000 in
set_option maxRecDepth 100000 in
theorem usesOf_any (w : World) (V : CV) (C : Circ) (h : C.In w V) (hm0 : 0 ≤ C.max) (hm : C.max ≤ 16384) (hal : C.ands.length ≤ 16384) (hfit : ∀ z ∈ C.ands, FitT C.max z) :
    Calls Try.prog 89 #[V.val C.max] w fun e w' => ∃ g, e = .returned (.slice (some ⟨g, 0, none⟩) C.ands.length C.ands.length) ∧ w.heap.size ≤ g ∧ Below w.heap.size w w' ∧ Prs w' g (usesC C) := by
  obtain ⟨m, hmm⟩ : ∃ m : Nat, C.max = (m : Int) := ⟨C.max.toNat, by omega⟩
  rw [hmm] at hm hfit ⊢
  have hgo : gateOf C = gateF C.ands 0 (List.replicate (m + 1) (-1)) := by unfold gateOf; rw [hmm]; rfl
  have HGO := Lib.hid hgo
  clear hgo hm0
  have HB0 := Lib.hid (Below.refl w.heap.size w)
  have hmk := make_ints (m + 1) (by omega)
  push_cast at hmk
  have HM : Hid (Mid2 w ((w.alloc (.cells (V.cells m) 29)).alloc (.cells (madeCells #[Value.int .i64 0] (m + 1)) 3)) w.heap.size (w.heap.size + 1) (V.cells m) (List.replicate 0 (-1) ++ List.replicate (m + 1 - 0) 0)) := by
    refine Lib.hid ⟨(HB0.out.alloc (Nat.le_refl _) _).alloc (by simp) _, (Blk.new _ _ _).alloc _, ?_⟩
    have := new_ints (w.alloc (.cells (V.cells m) 29)) (m + 1)
    simpa using this
  obtain ⟨AA, cA, eA, _, _, hA⟩ := h.a
  obtain ⟨Vi, Vl, Vo, Vb, Vc, Vj, Vf, Va, Vs, Vt⟩ := V
  simp only at eA
  subst eA
  have HA := Lib.hid hA
  have HFIT := Lib.hid hfit
  clear hA h hfit hmm
  generalize hn : C.ands.length = n at *
  have HN := Lib.hid hn
  clear hn
  go_enter Try.func89, Try.ntmps89
  go_wp2
  go_loopw [16] (fun i wr => ∃ k : Nat, k ≤ m + 1 ∧ i = .int .i64 k ∧ Mid2 w wr w.heap.size (w.heap.size + 1) _ (List.replicate k (-1) ++ List.replicate (m + 1 - k) 0)) (fun i _ => m + 1 - (intOf i).toNat)
  case atStart => exact ⟨0, Nat.zero_le _, rfl, HM.out⟩
  case round =>
    obtain ⟨k, hk, rfl, hmid⟩ := hrel
    have HMM := Lib.hid hmid
    clear hmid
    by_cases hlt : k < m + 1
    · have hcell := HMM.out.nums.cell (fill_get hlt)
      have hfr := Blk.frozen HMM.out.nums k
      go_wp2
      go_roundw
      case rel =>
        have := HMM.out.set_ (by omega) (by omega) k (-1)
        rw [fill_set hlt] at this
        exact ⟨k + 1, by omega, by go_num, this⟩
      case measure => simp [intOf]; omega
    · have : k = m + 1 := by omega
      subst this
      have h8 := HMM.out.box.cell 8
      simp at h8
      have hm1 := HMM.out
      simp only [Nat.sub_self, List.replicate_zero, List.append_nil] at hm1
      have HM1 := Lib.hid hm1
      clear hm1
      clear HMM HM
      go_wp2
      go_loopw [26] (fun i wr => ∃ (k : Nat) (G : List Int), k ≤ n ∧ i = .int .i64 k ∧ G.length = m + 1 ∧ gateF C.ands 0 (List.replicate (m + 1) (-1)) = gateF (C.ands.drop k) k G ∧ Mid2 w wr w.heap.size (w.heap.size + 1) _ G) (fun i _ => n - (intOf i).toNat)
      case atStart => exact ⟨0, _, Nat.zero_le _, rfl, by simp, rfl, HM1.out⟩
      case round =>
        obtain ⟨k, G, hk, rfl, hgl, hall, hmid⟩ := hrel
        have HMM := Lib.hid hmid
        have HAL := Lib.hid hall
        have HGL := Lib.hid hgl
        clear hmid hall hgl
        by_cases hlt : k < n
        · have hx := List.getElem?_eq_getElem (l := C.ands) (i := k) (by rw [HN.out]; exact hlt)
          generalize C.ands[k]'(by rw [HN.out]; exact hlt) = x at hx
          obtain ⟨b, off, rfl, hb, hcell⟩ := HA.out k x hx
          have HX := Lib.hid hx
          have hxo := HFIT.out x (List.mem_of_getElem? HX.out)
          clear hx
          obtain ⟨x0, x1, x2⟩ := x
          have h0 := (HMM.out.below.cell (p := ⟨b, off + (k * 3 + 0), none⟩) hb).trans (hcell 0 _ rfl)
          have h1 := (HMM.out.below.cell (p := ⟨b, off + (k * 3 + 1), none⟩) hb).trans (hcell 1 _ rfl)
          have h2 := (HMM.out.below.cell (p := ⟨b, off + (k * 3 + 2), none⟩) hb).trans (hcell 2 _ rfl)
          simp only [Nat.add_zero, ← Nat.add_assoc] at h0 h1 h2
          clear hcell
          obtain ⟨⟨a1, a2⟩, _, _⟩ := hxo
          simp only at a1 a2
          have hq := tdiv_nn (b := 2) a1
          have hq0 : 0 ≤ x0 / 2 := by omega
          have hq1 : x0 / 2 < (m : Int) + 1 := by omega
          have hq2 : (x0 / 2).toNat < G.length := by rw [HGL.out]; omega
          obtain ⟨gv, hgv⟩ : ∃ x, G[(x0 / 2).toNat]? = some x := ⟨_, List.getElem?_eq_getElem hq2⟩
          have hg := HMM.out.nums.cell hgv
          have hfr := Blk.frozen HMM.out.nums (x0 / 2).toNat
          have hgl := Blk.lt HMM.out.nums
          clear hq2 hgv
          go_wp2
          go_roundw
          case rel => exact ⟨k + 1, _, by omega, by go_num, by rw [List.length_set]; exact HGL.out, by rw [HAL.out]; exact gateF_step HX.out, (HMM.out.set_ (by omega) (by omega) _ _).alloc _⟩
          case measure => simp [intOf]; omega
        · have : k = n := by omega
          subst this
          have HG : Hid (gateOf C = G) := Lib.hid (HGO.out.trans (HAL.out.trans (gateF_end (by rw [HN.out]; exact Nat.le_refl _))))
          clear HAL HM1
          have h8 := HMM.out.box.cell 8
          simp at h8
          have hmk2 := make_pairs k (by omega)
          have h8' := (HMM.out.alloc (.cells (madeCells #[Value.int .i64 0, Value.int .i64 0] (k * 2)) 152)).box.cell 8
          simp at h8'
          go_wp2
          have HP0 : Hid (Prs (wr.alloc (.cells (madeCells #[Value.int .i64 0, Value.int .i64 0] (k * 2)) 152)) wr.heap.size (pairsK C.ands G 0)) := by
            have := new_pairs wr k
            have e : pairsK C.ands G 0 = List.replicate k (0, 0) := by simp [pairsK, HN.out]
            rw [e]; exact Lib.hid this
          have HM2 := Lib.hid (HMM.out.alloc (.cells (madeCells #[Value.int .i64 0, Value.int .i64 0] (k * 2)) 152))
          have hwr : w.heap.size + 1 < wr.heap.size := Blk.lt HMM.out.nums
          generalize hgp : wr.heap.size = gp at *
          clear HMM hgp
          go_loopw [45] (fun i wr => ∃ j : Nat, j ≤ k ∧ i = .int .i64 j ∧ Mid2 w wr w.heap.size (w.heap.size + 1) _ G ∧ Prs wr gp (pairsK C.ands G j)) (fun i _ => k - (intOf i).toNat)
          case atStart => exact ⟨0, Nat.zero_le _, rfl, HM2.out, HP0.out⟩
          case round =>
            obtain ⟨j, hj, rfl, hmid, hprs⟩ := hrel
            have HMM := Lib.hid hmid
            have HPR := Lib.hid hprs
            clear hmid hprs HM2 HP0
            by_cases hlt : j < k
            · have hx := List.getElem?_eq_getElem (l := C.ands) (i := j) (by rw [HN.out]; exact hlt)
              generalize C.ands[j]'(by rw [HN.out]; exact hlt) = x at hx
              obtain ⟨b, off, rfl, hb, hcell⟩ := HA.out j x hx
              have HX := Lib.hid hx
              have hxo := HFIT.out x (List.mem_of_getElem? HX.out)
              clear hx
              obtain ⟨x0, x1, x2⟩ := x
              have h0 := (HMM.out.below.cell (p := ⟨b, off + (j * 3 + 0), none⟩) hb).trans (hcell 0 _ rfl)
              have h1 := (HMM.out.below.cell (p := ⟨b, off + (j * 3 + 1), none⟩) hb).trans (hcell 1 _ rfl)
              have h2 := (HMM.out.below.cell (p := ⟨b, off + (j * 3 + 2), none⟩) hb).trans (hcell 2 _ rfl)
              simp only [Nat.add_zero, ← Nat.add_assoc] at h0 h1 h2
              clear hcell
              obtain ⟨_, ⟨a1, a2⟩, ⟨b1, b2⟩⟩ := hxo
              simp only at a1 a2 b1 b2
              have hgl := HMM.out.nums
              have hglen : G.length = m + 1 := HGL.out
              obtain ⟨ga, hga⟩ : ∃ x, G[(x1 / 2).toNat]? = some x := ⟨_, List.getElem?_eq_getElem (by omega)⟩
              obtain ⟨gb, hgb⟩ : ∃ x, G[(x2 / 2).toNat]? = some x := ⟨_, List.getElem?_eq_getElem (by omega)⟩
              have hda := (HMM.out.alloc (.cells #[.int .i64 x0, .int .i64 x1, .int .i64 x2] 68)).nums.cell hga
              have hdb := (HMM.out.alloc (.cells #[.int .i64 x0, .int .i64 x1, .int .i64 x2] 68)).nums.cell hgb
              have hpl := Blk.lt HPR.out
              have hpp := HPR.out.cell (pairsK_get (zs := C.ands) (G := G) (k := j) (by rw [HN.out]; exact hlt))
              obtain ⟨hp1, hp2⟩ := hpp
              simp only at hp1 hp2
              have hf1 := Blk.frozen HPR.out (j * 2)
              have hf2 := Blk.frozen HPR.out (j * 2 + 1)
              have HUO : Hid (useOf G (x0, x1, x2) = (ga, gb)) := Lib.hid (by simp [useOf, hga, hgb])
              have hq1 := tdiv_nn (b := 2) a1
              have hq2 := tdiv_nn (b := 2) b1
              have q1 : 0 ≤ x1 / 2 := by omega
              have q2 : x1 / 2 < (m : Int) + 1 := by omega
              have q3 : 0 ≤ x2 / 2 := by omega
              have q4 : x2 / 2 < (m : Int) + 1 := by omega
              have e1 : ¬ gp = w.heap.size + 1 := by omega
              have e2 : ¬ w.heap.size + 1 = gp := by omega
              have e3 : ¬ gp = wr.heap.size := by omega
              have e4 : ¬ wr.heap.size = gp := by omega
              have hbld := build_two ga gb
              have hM3 := (((HMM.out.far (gp := gp) (by omega) (by omega) (by omega) (j * 2) (.int .i64 ga)).far (gp := gp) (by omega) (by omega) (by omega) (j * 2 + 1) (.int .i64 gb)).alloc (.cells #[.int .i64 x0, .int .i64 x1, .int .i64 x2] 68)).drew
              have hN3 := Blk.drew (Blk.new ((wr.setCell ⟨gp, j * 2, none⟩ (.int .i64 ga)).setCell ⟨gp, j * 2 + 1, none⟩ (.int .i64 gb)) 68 #[.int .i64 x0, .int .i64 x1, .int .i64 x2])
              have hP3 := Prs.set_ HPR.out (i := j) (by rw [pairsK_len (by rw [HN.out]; omega), HN.out]; omega) (ga, gb)
              rw [size_two] at hN3
              have hk1 := hN3.cell 1
              have hk2 := hN3.cell 2
              have hk3 := hM3.nums.cell hga
              have hk4 := hM3.nums.cell hgb
              simp only [List.getElem?_toArray, List.getElem?_cons_succ, List.getElem?_cons_zero] at hk1 hk2
              have HM3 := Lib.hid hM3
              have HP3 := Lib.hid hP3
              have HK := Lib.hid (And.intro hk1 (And.intro hk2 (And.intro hk3 hk4)))
              clear hM3 hN3 hP3 hk1 hk2 hk3 hk4
              have hw1 : IntKind.i64.wrap (x1 / 2) = x1 / 2 := i64_small (by omega) (by omega)
              have hw2 : IntKind.i64.wrap (x2 / 2) = x2 / 2 := i64_small (by omega) (by omega)
              clear hga hgb hgl hglen
              have hj0 : (0 : Int) ≤ (j : Int) := by omega
              have hj1 : (j : Int) < (k : Int) := by omega
              go_wp2
              go_region_held3 (fun w' => w'.cell? ⟨wr.heap.size, 1, none⟩ = some (.int .i64 x1) ∧ w'.cell? ⟨wr.heap.size, 2, none⟩ = some (.int .i64 x2) ∧ w'.cell? ⟨w.heap.size + 1, (x1 / 2).toNat, none⟩ = some (.int .i64 ga) ∧ w'.cell? ⟨w.heap.size + 1, (x2 / 2).toNat, none⟩ = some (.int .i64 gb)) (first | exact HK.out | go_keep) (fail)
              go_wp2
              go_roundw
              case rel =>
                have hp4 := HP3.out
                rw [← HUO.out, pairsK_set HX.out] at hp4
                have hp5 : Prs _ gp _ := Blk.drew (Blk.alloc hp4 (.cells #[.int .i64 x0, .int .i64 x1, .int .i64 x2] 68))
                first
                  | exact ⟨j + 1, by omega, by go_num, HM3.out, hp5⟩
                  | ((repeat apply Exists.intro); exact ⟨⟨j + 1, by omega, by go_num, HM3.out, hp5⟩, rfl⟩)
              case measure => first | (simp [intOf]; omega) | omega
            · have : j = k := by omega
              subst this
              go_wp2
              go_ret
              refine ⟨_, rfl, by omega, HMM.out.below, ?_⟩
              have := HPR.out
              rw [← HN.out, pairsK_end] at this
              unfold usesC
              rw [HG.out]
              exact this
end Go.Proofs.Ytdodhbfplglbkaa
