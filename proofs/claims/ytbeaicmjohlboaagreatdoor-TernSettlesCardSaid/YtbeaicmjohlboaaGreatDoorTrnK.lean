/- Tern: the contract of settle. -/
import Derived.Test.YtbeaicmjohlboaaGreatDoorTrnF
import Derived.Test.YtbeaicmjohlboaaGreatDoorTrnB
namespace Go.Proofs.YtbeaicmjohlboaaGreatDoor
open Go.RowKit

/-- Of each variable the latches whose Next has it, of the first k latches. -/
def takersN (C : Circ) (n : Nat) : Nat → List (List Int)
  | 0 => List.replicate n []
  | k + 1 => addU (takersN C n k) ((C.latches.getD k (0, 0, 0)).2.1 / 2).toNat (k : Int)
theorem takersN_len (C : Circ) (n : Nat) : ∀ k, (takersN C n k).length = n
  | 0 => by simp [takersN]
  | k + 1 => by unfold takersN; rw [addU_len, takersN_len C n k]
theorem takersN_mem {C : Circ} {n : Nat} (hr : ∀ z ∈ C.latches, (z.2.1 / 2).toNat < n) : ∀ (k : Nat), k ≤ C.latches.length → ∀ v, v < n → ∀ x : Int, x ∈ (takersN C n k).getD v [] ↔ ∃ (i : Nat) (z : Tri), i < k ∧ x = (i : Int) ∧ C.latches[i]? = some z ∧ (z.2.1 / 2).toNat = v
  | 0, _, v, hv, x => by
    simp only [takersN]
    rw [List.getD_eq_getElem?_getD, List.getElem?_replicate, if_pos hv]
    simp
  | k + 1, hk, v, hv, x => by
    have ih := takersN_mem hr k (by omega) v hv x
    obtain ⟨z, hz⟩ : ∃ z, C.latches[k]? = some z := ⟨_, List.getElem?_eq_getElem (by omega)⟩
    have hzD : C.latches.getD k (0, 0, 0) = z := by simp [List.getD_eq_getElem?_getD, hz]
    have r1 := hr z (List.mem_of_getElem? hz)
    unfold takersN
    rw [hzD, addU_get (by rw [takersN_len]; exact r1)]
    constructor
    · intro h
      by_cases e1 : (z.2.1 / 2).toNat = v
      · rw [if_pos e1] at h
        rcases List.mem_append.1 h with h | h
        · obtain ⟨i, y, q1, q2⟩ := ih.1 h
          exact ⟨i, y, by omega, q2⟩
        · exact ⟨k, z, by omega, by simpa using h, hz, e1⟩
      · rw [if_neg e1] at h
        obtain ⟨i, y, q1, q2⟩ := ih.1 h
        exact ⟨i, y, by omega, q2⟩
    · rintro ⟨i, y, q1, q2, q3, q4⟩
      by_cases e : i = k
      · subst e
        rw [hz] at q3
        injection q3 with q3
        subst q3
        rw [if_pos q4]; exact List.mem_append_right _ (by simp [q2])
      · have h2 := ih.2 ⟨i, y, by omega, q2, q3, q4⟩
        split
        · exact List.mem_append_left _ h2
        · exact h2
theorem takersN_short (C : Circ) (n : Nat) : ∀ (k v : Nat), ((takersN C n k).getD v []).length ≤ k
  | 0, v => by
    simp only [takersN]
    rw [List.getD_eq_getElem?_getD, List.getElem?_replicate]
    split <;> simp
  | k + 1, v => by
    have ih := takersN_short C n k v
    have h2 := addU_short (takersN C n k) ((C.latches.getD k (0, 0, 0)).2.1 / 2).toNat (k : Int) v
    unfold takersN
    omega
structure TKS (w0 wr : World) (n : Nat) (cs : Array Value) (vs : List Value) (US : List (List Int)) : Prop where
  below : Below w0.heap.size w0 wr
  sz : w0.heap.size + 2 ≤ wr.heap.size
  cb : Blk wr w0.heap.size 29 cs
  us : Blk wr (w0.heap.size + 1) 22 vs.toArray
  vl : vs.length = n
  ul : US.length = n
  fam : Fam wr (w0.heap.size + 2) (vs.zip US)
section
variable {w0 wr : World} {n : Nat} {cs : Array Value} {vs : List Value} {US : List (List Int)}
theorem TKS.on {w1 : World} (h : TKS w0 wr n cs vs US) (hb : Below wr.heap.size wr w1) : TKS w0 w1 n cs vs US :=
  ⟨bt h.below (Nat.le_refl _) hb, Nat.le_trans h.sz hb.size, h.cb.below hb h.cb.lt, h.us.below hb h.us.lt, h.vl, h.ul, h.fam.keep (fun g _ hg => hb.block g hg)⟩
theorem TKS.row (h : TKS w0 wr n cs vs US) {v : Nat} {u : Value} {zs : List Int} (hu : vs[v]? = some u) (hz : US[v]? = some zs) : wr.ownsRow (w0.heap.size + 2) 3 1 u zs.length (zs.map (Value.int .i64)) :=
  h.fam.own (u, zs) (List.mem_of_getElem? (by rw [List.getElem?_zip_eq_some]; exact ⟨hu, hz⟩))
theorem TKS.app {w3 : World} {v : Nat} {u v3 : Value} {zs : List Int} {i : Int} (h : TKS w0 wr n cs vs US) (hu : vs[v]? = some u) (hz : US[v]? = some zs) (ho3 : w3.ownsRow (w0.heap.size + 2) 3 1 v3 (zs.length + 1) (zs.map (Value.int .i64) ++ [.int .i64 i]))
    (hg3 : wr.grownBy w3 u.ownBlock) (hat : v3.ownBlock = u.ownBlock ∨ v3.ownBlock = some wr.heap.size) :
    TKS w0 (w3.setCell ⟨w0.heap.size + 1, v, none⟩ v3) n cs (vs.set v v3) (US.set v (zs ++ [i])) := by
  have hrow := h.row hu hz
  have hbk : ∀ (k : Nat) (t : TypeId) (ar : Array Value), Blk wr k t ar → t ≠ 3 → Blk w3 k t ar := fun k t ar hb hne => hb.grown hg3 (fun e => own_blk_ne hrow hb (Ne.symm hne) e.symm)
  have hus := Blk.set_ (hbk _ _ _ h.us (by decide)) v v3
  refine ⟨(h.below.grown hg3 h.below.size (fun k hk => by have := (hrow.lt k hk).1; omega)).setCell (by simp) _, by have h1 := h.sz; have h2 := hg3.size; simp; omega, Blk.far (hbk _ _ _ h.cb (by decide)) (by simp) _, by simpa using hus, by simp [h.vl], by simp [h.ul], ?_⟩
  rw [zip_set]
  refine h.fam.upd (v := u) (l := zs) (by rw [List.getElem?_zip_eq_some]; exact ⟨hu, hz⟩) (fun g hg hl hne => ?_) ?_ ?_
  · refine (Below.heap_setCell _ _ _ _ (by simp only; omega)).trans (hg3.block g hl (fun e => hne e))
  · have h9 : w3.ownsRow (w0.heap.size + 2) 3 1 v3 (zs ++ [i]).length ((zs ++ [i]).map (Value.int .i64)) := by simpa using ho3
    have hb3 := hbk _ _ _ h.us (by decide)
    exact own_setQ h9 _ _ (fun g hg e => own_blk_ne h9 hb3 (by decide) (by rw [hg]; exact congrArg some e))
  · rcases hat with e | e
    · exact .inl e
    · exact .inr ⟨_, e, Nat.le_refl _⟩
theorem TKS.jrow (h : TKS w0 wr n cs vs US) (hn : n ≤ 20000) : JRow wr w0.heap.size (.slice (some ⟨w0.heap.size + 1, 0, none⟩) n n) vs US := by
  refine ⟨by rw [h.vl, h.ul], ?_, fun i u zs hu hz => ?_⟩
  · rw [h.vl]
    exact ⟨by rw [h.vl]; simp, .inr ⟨w0.heap.size + 1, n, _, rfl, by omega, h.us, Nat.le_refl _, by unfold maxLen; omega, by simp [h.vl], by simp [← h.vl]⟩⟩
  · rw [flat_ints]
    exact own_le (h.row hu hz) (by omega)
end

set_option maxHeartbeats 8000000 in
set_option maxRecDepth 100000 in
theorem takersOf_any (w : World) (V : CV) (C : Circ) (h : C.In w V) (hrt : Right C) :
    Calls Tryz.prog 34 #[V.val C.max] w fun e w' => ∃ (v : Value) (us : List Value), e = .returned v ∧ Below w.heap.size w w' ∧ JRow w' w.heap.size v us (takersN C (C.max.toNat + 1) C.latches.length) := by
  obtain ⟨n, hn⟩ : ∃ n, C.max.toNat + 1 = n := ⟨_, rfl⟩
  have hm0 := hrt.m0
  have hm1 := hrt.m1
  have hnl := hrt.nl
  have hn1 : n ≤ 20000 := by omega
  have hmk1 := make_rows n (by omega)
  have HRT := Lib.hid hrt
  have HNM : Hid ((n : Int) = C.max + 1) := Lib.hid (by omega)
  obtain ⟨AL, cL, eL, _, _, rL⟩ := h.l
  have HRA := Lib.hid rL
  obtain ⟨Vi, Vl, Vo, Vb, Vc, Vj, Vf, Va, Vs, Vt⟩ := V
  simp only at eL
  subst eL
  obtain ⟨i0, hi0, hz0, hz1, hz2⟩ := info_of2 infoI2
  have HI0 := Lib.hid (And.intro hi0 (And.intro hz0 (And.intro hz1 hz2)))
  obtain ⟨m, hmm⟩ : ∃ m, C.max = m := ⟨_, rfl⟩
  obtain ⟨nL, hnL⟩ : ∃ k, C.latches.length = k := ⟨_, rfl⟩
  rw [hn, hnL]
  rw [hmm]
  rw [hnL] at hnl
  have hnm : m + 1 = (n : Int) := by omega
  have HNL := Lib.hid hnL
  have HN0 : Hid (TKS w ((w.alloc (.cells #[.int .i64 m, Vi, .slice AL nL cL, Vo, Vb, Vc, Vj, Vf, Va, Vs, Vt] 29)).alloc (.cells (madeCells #[Value.slice none 0 0] n) 22)) n #[.int .i64 m, Vi, .slice AL nL cL, Vo, Vb, Vc, Vj, Vf, Va, Vs, Vt] (List.replicate n (.slice none 0 0)) (takersN C n 0)) := by
    refine Lib.hid ⟨((Below.refl w.heap.size w).alloc (Nat.le_refl _) _).alloc (by simp) _, by simp, (Blk.new w _ _).alloc _, ?_, by simp, by simp [takersN], ⟨fun p hp => ?_, fun i j a b hij hi hj gx hga hgb => ?_⟩⟩
    · rw [← made_rows]
      have := Blk.new (w.alloc (.cells #[.int .i64 m, Vi, .slice AL nL cL, Vo, Vb, Vc, Vj, Vf, Va, Vs, Vt] 29)) 22 (madeCells #[Value.slice none 0 0] n)
      simpa using this
    · rw [zip_nil hp]; exact World.ownsRow_nil _ _ _ _
    · rw [zip_nil (List.mem_of_getElem? hi)] at hga
      simp [Value.ownBlock] at hga
  clear h hrt rL hi0 hz0 hz1 hz2 hmm hnL hn hm0 hm1
  have hmw : IntKind.i64.wrap (m + 1) = (n : Int) := by rw [hnm]; simp [IntKind.wrap, IntKind.bits, IntKind.signed]; omega
  clear hnm
  go_enter Tryz.func34, Tryz.ntmps34
  go_wp2
  go_loopg [13] nL (fun j iv wx => ∃ (k : Nat) (vs : List Value), k ≤ nL ∧ iv = .int .i64 k ∧ j = nL - k ∧ TKS w wx n #[.int .i64 m, Vi, .slice AL nL cL, Vo, Vb, Vc, Vj, Vf, Va, Vs, Vt] vs (takersN C n k))
  case atStart => exact ⟨0, _, Nat.zero_le _, rfl, rfl, HN0.out⟩
  case round =>
    obtain ⟨k, vs, hk, rfl, hgk, hnw⟩ := hrel
    subst hgk
    clear HN0
    have HNW := Lib.hid hnw
    by_cases hlt : k < nL
    · obtain ⟨z, hz⟩ : ∃ z, C.latches[k]? = some z := ⟨_, List.getElem?_eq_getElem (by rw [HNL.out]; exact hlt)⟩
      obtain ⟨ab, aoff, e, hab, hcell⟩ := HRA.out k z hz
      subst e
      have hza := (HRT.out.l z (List.mem_of_getElem? hz)).2.1
      unfold LitOk at hza
      have HUS : Hid (takersN C n (k + 1) = addU (takersN C n k) (z.2.1 / 2).toNat (k : Int)) := Lib.hid (by
        have hzD : C.latches.getD k (0, 0, 0) = z := by simp [List.getD_eq_getElem?_getD, hz]
        show addU (takersN C n k) ((C.latches.getD k (0, 0, 0)).2.1 / 2).toNat (k : Int) = _
        rw [hzD])
      obtain ⟨z0, z1, z2⟩ := z
      obtain ⟨hz10, hz11⟩ := hza
      simp only at hz10 hz11 HUS
      have m0 := (hnw.below.cell (p := ⟨ab, aoff + (k * 3 + 0), none⟩) hab).trans (hcell 0 _ rfl)
      have m1 := (hnw.below.cell (p := ⟨ab, aoff + (k * 3 + 1), none⟩) hab).trans (hcell 1 _ rfl)
      have m2 := (hnw.below.cell (p := ⟨ab, aoff + (k * 3 + 2), none⟩) hab).trans (hcell 2 _ rfl)
      simp only [Nat.add_zero, ← Nat.add_assoc] at m0 m1 m2
      have hki : (k : Int) < (nL : Int) := by omega
      have hki0 : (0 : Int) ≤ (k : Int) := by omega
      have HSH := Lib.hid (takersN_short C n k)
      have hbA : Below wr.heap.size wr (wr.alloc (.cells #[.int .i64 z0, .int .i64 z1, .int .i64 z2] 43)) := (Below.refl _ _).alloc (Nat.le_refl _) _
      have HN5 := Lib.hid (hnw.on hbA)
      have HG5 : Hid (Blk (wr.alloc (.cells #[.int .i64 z0, .int .i64 z1, .int .i64 z2] 43)) wr.heap.size 43 #[.int .i64 z0, .int .i64 z1, .int .i64 z2]) := Lib.hid (Blk.new wr _ _)
      clear hnw hz hcell hbA hab
      go_upto_region 5 with (fail)
      generalize hW5 : wr.alloc (.cells #[.int .i64 z0, .int .i64 z1, .int .i64 z2] 43) = W5 at *
      generalize hbx : wr.heap.size = bx at *
      clear hW5 hbx
      have hvx : (z1 / 2).toNat < n := by have := HNM.out; omega
      obtain ⟨u5, hu⟩ : ∃ u, vs[(z1 / 2).toNat]? = some u := ⟨_, List.getElem?_eq_getElem (by rw [HN5.out.vl]; exact hvx)⟩
      obtain ⟨y5, hy⟩ : ∃ y, (takersN C n k)[(z1 / 2).toNat]? = some y := ⟨_, List.getElem?_eq_getElem (by rw [HN5.out.ul]; exact hvx)⟩
      have HUY := Lib.hid (And.intro hu hy)
      have hyl : y5.length ≤ 40000 := by
        have h9 := HSH.out (z1 / 2).toNat
        rw [List.getD_eq_getElem?_getD, hy] at h9
        have h8 : y5.length ≤ k := h9
        omega
      obtain ⟨A5, c5, he⟩ := own_slice_k (HN5.out.row hu hy)
      obtain ⟨yl5, hyq⟩ : ∃ k, y5.length = k := ⟨_, rfl⟩
      rw [hyq] at he hyl
      subst he
      have HYQ := Lib.hid hyq
      have HC5 : Hid (∀ wz, Below W5.heap.size W5 wz → (wz.cell? ⟨bx, 1, none⟩ = some (.int .i64 z1) ∧ wz.cell? ⟨w.heap.size + 1, (z1 / 2).toNat, none⟩ = some (.slice A5 yl5 c5)) ∧ wz.ownsRow (w.heap.size + 2) 3 1 (.slice A5 yl5 c5) yl5 (y5.map (Value.int .i64))) := Lib.hid (fun wz hb => by
        have hx := HN5.out.on hb
        have hbk := HG5.out.below hb HG5.out.lt
        have h9 := hx.row HUY.out.1 HUY.out.2
        rw [HYQ.out] at h9
        have h8 := hx.us.cell (z1 / 2).toNat
        rw [List.getElem?_toArray, HUY.out.1] at h8
        exact ⟨⟨hbk.cell 1, h8⟩, h9⟩)
      have HD5 : Hid (Below W5.heap.size W5 W5.drew) := Lib.hid (Below.refl _ _).drew
      have HW5 : Hid (∀ w3, (W5.drew.alloc (.cells #[.int .i64 (k : Int)] 3)).grownBy w3 (Value.slice A5 yl5 c5).ownBlock → (w3.cell? ⟨bx, 1, none⟩ = some (.int .i64 z1) ∧ w3.cell? ⟨w.heap.size + 1, (z1 / 2).toNat, none⟩ = some (.slice A5 yl5 c5)) ∧ w3.frozen? ⟨w.heap.size + 1, (z1 / 2).toNat, none⟩ = false ∧ w.heap.size + 1 < w3.heap.size) := Lib.hid (fun w3 hg => by
        have hx := HN5.out.on (HD5.out.alloc (Nat.le_refl _) (.cells #[.int .i64 (k : Int)] 3))
        have hrow := hx.row HUY.out.1 HUY.out.2
        have kk : ∀ (q : Nat) (t : TypeId) (ar : Array Value), Blk (W5.drew.alloc (.cells #[.int .i64 (k : Int)] 3)) q t ar → t ≠ 3 → Blk w3 q t ar := fun q t ar hb hne => hb.grown hg (fun e => own_blk_ne hrow hb (Ne.symm hne) e.symm)
        have b2 := kk _ _ _ (HG5.out.below (HD5.out.alloc (Nat.le_refl _) (.cells #[.int .i64 (k : Int)] 3)) HG5.out.lt) (by decide)
        have b3 := kk _ _ _ hx.us (by decide)
        have h8 := b3.cell (z1 / 2).toNat
        rw [List.getElem?_toArray, HUY.out.1] at h8
        exact ⟨⟨b2.cell 1, h8⟩, b3.frozen _, b3.lt⟩)
      have hsz5 : w.heap.size + 2 ≤ W5.heap.size := HN5.out.sz
      have hzd : 0 ≤ z1 / 2 := by omega
      have hzn : z1 / 2 < (n : Int) := by have := HNM.out; omega
      have hzw : IntKind.i64.wrap (z1 / 2) = z1 / 2 := by simp [IntKind.wrap, IntKind.bits, IntKind.signed]; omega
      have hzt := tdiv_nn (b := 2) hz10
      clear hu hy hyq
      refine wp_region_T (by kernel_rfl) (fun w' => w'.cell? ⟨bx, 1, none⟩ = some (.int .i64 z1) ∧ w'.cell? ⟨w.heap.size + 1, (z1 / 2).toNat, none⟩ = some (.slice A5 yl5 c5)) 13 ?_
      have hHeld := (HC5.out _ HD5.out).1
      refine wpAnyT_take (i := 0) (oi := { dst := some 18, op := Op.move (Operand.tmp 3), type := 24, pos := "settle.go:32", after := #[], guard := none }) (v := ?v0) rfl (by kernel_rfl) (fun _ _ _ h => h) (by rfl) hHeld ?h0 ?_
      case h0 => (intro w' hSw; (try dsimp only at hSw); go_simp; try with_reducible rfl)
      (try simp only [Act.put, List.setIfInBounds_toArray, List.set_cons_zero, List.set_cons_succ])
      refine wpAnyT_take (i := 1) (oi := { dst := some 19, op := Op.fieldAddr 43 (Operand.tmp 5) 1, type := 0, pos := "settle.go:32", after := #[], guard := none }) (v := ?v1) rfl (by kernel_rfl) (fun _ _ _ h => h) (by rfl) hHeld ?h1 ?_
      case h1 => (intro w' hSw; (try dsimp only at hSw); go_simp; try with_reducible rfl)
      (try simp only [Act.put, List.setIfInBounds_toArray, List.set_cons_zero, List.set_cons_succ])
      refine wpAnyT_take (i := 2) (oi := { dst := some 20, op := Op.load 3 (Operand.tmp 19), type := 3, pos := "settle.go:32", after := #[{ on := 1, ground := Ground.data }], guard := none }) (v := ?v2) rfl (by kernel_rfl) (fun _ _ _ h => h) (by rfl) hHeld ?h2 ?_
      case h2 => (intro w' hSw; (try dsimp only at hSw); go_simp; try with_reducible rfl)
      (try simp only [Act.put, List.setIfInBounds_toArray, List.set_cons_zero, List.set_cons_succ])
      refine wpAnyT_take (i := 3) (oi := { dst := some 21, op := Op.binOp BinOp.quo 3 (Operand.tmp 20) (Operand.const (Value.int IntKind.i64 2)) 3, type := 3, pos := "settle.go:32", after := #[{ on := 2, ground := Ground.data }], guard := none }) (v := ?v3) rfl (by kernel_rfl) (fun _ _ _ h => h) (by rfl) hHeld ?h3 ?_
      case h3 => (intro w' hSw; (try dsimp only at hSw); go_simp; try with_reducible rfl)
      (try simp only [Act.put, List.setIfInBounds_toArray, List.set_cons_zero, List.set_cons_succ])
      refine wpAnyT_take (i := 4) (oi := { dst := some 22, op := Op.move (Operand.tmp 3), type := 24, pos := "settle.go:32", after := #[], guard := none }) (v := ?v4) rfl (by kernel_rfl) (fun _ _ _ h => h) (by rfl) hHeld ?h4 ?_
      case h4 => (intro w' hSw; (try dsimp only at hSw); go_simp; try with_reducible rfl)
      (try simp only [Act.put, List.setIfInBounds_toArray, List.set_cons_zero, List.set_cons_succ])
      refine wpAnyT_take (i := 5) (oi := { dst := some 23, op := Op.fieldAddr 43 (Operand.tmp 5) 1, type := 0, pos := "settle.go:32", after := #[], guard := none }) (v := ?v5) rfl (by kernel_rfl) (fun _ _ _ h => h) (by rfl) hHeld ?h5 ?_
      case h5 => (intro w' hSw; (try dsimp only at hSw); go_simp; try with_reducible rfl)
      (try simp only [Act.put, List.setIfInBounds_toArray, List.set_cons_zero, List.set_cons_succ])
      refine wpAnyT_take (i := 6) (oi := { dst := some 24, op := Op.load 3 (Operand.tmp 23), type := 3, pos := "settle.go:32", after := #[{ on := 5, ground := Ground.data }], guard := none }) (v := ?v6) rfl (by kernel_rfl) (fun _ _ _ h => h) (by rfl) hHeld ?h6 ?_
      case h6 => (intro w' hSw; (try dsimp only at hSw); go_simp; try with_reducible rfl)
      (try simp only [Act.put, List.setIfInBounds_toArray, List.set_cons_zero, List.set_cons_succ])
      refine wpAnyT_take (i := 7) (oi := { dst := some 25, op := Op.binOp BinOp.quo 3 (Operand.tmp 24) (Operand.const (Value.int IntKind.i64 2)) 3, type := 3, pos := "settle.go:32", after := #[{ on := 6, ground := Ground.data }], guard := none }) (v := ?v7) rfl (by kernel_rfl) (fun _ _ _ h => h) (by rfl) hHeld ?h7 ?_
      case h7 => (intro w' hSw; (try dsimp only at hSw); go_simp; try with_reducible rfl)
      (try simp only [Act.put, List.setIfInBounds_toArray, List.set_cons_zero, List.set_cons_succ])
      refine wpAnyT_take (i := 8) (oi := { dst := some 26, op := Op.indexAddr 24 (Operand.tmp 22) (Operand.tmp 25), type := 0, pos := "settle.go:32", after := #[{ on := 4, ground := Ground.data }, { on := 7, ground := Ground.data }], guard := none }) (v := ?v8) rfl (by kernel_rfl) (fun _ _ _ h => h) (by rfl) hHeld ?h8 ?_
      case h8 => (intro w' hSw; (try dsimp only at hSw); go_simp; try with_reducible rfl)
      (try simp only [Act.put, List.setIfInBounds_toArray, List.set_cons_zero, List.set_cons_succ])
      refine wpAnyT_take (i := 9) (oi := { dst := some 27, op := Op.load 22 (Operand.tmp 26), type := 22, pos := "settle.go:32", after := #[{ on := 8, ground := Ground.data }], guard := none }) (v := ?v9) rfl (by kernel_rfl) (fun _ _ _ h => h) (by rfl) hHeld ?h9 ?_
      case h9 => (intro w' hSw; (try dsimp only at hSw); go_simp; try with_reducible rfl)
      (try simp only [Act.put, List.setIfInBounds_toArray, List.set_cons_zero, List.set_cons_succ])
      refine wpAnyT_take (i := 10) (oi := { dst := some 28, op := Op.move (Operand.tmp 4), type := 3, pos := "settle.go:32", after := #[], guard := none }) (v := ?v10) rfl (by kernel_rfl) (fun _ _ _ h => h) (by rfl) hHeld ?h10 ?_
      case h10 => (intro w' hSw; (try dsimp only at hSw); go_simp; try with_reducible rfl)
      (try simp only [Act.put, List.setIfInBounds_toArray, List.set_cons_zero, List.set_cons_succ])
      clear hHeld
      refine wpAnyT_one (i := 11) (o := { dst := some 29, op := Op.buildSlice 22 1 #[(0, Operand.tmp 28)], type := 22, pos := "settle.go:32", after := #[{ on := 10, ground := Ground.data }], guard := none }) rfl (by kernel_rfl) (fun K hK => ?_)
      go_simp
      refine hK.out _ _ (fun _ => (HC5.out _ (HD5.out.alloc (Nat.le_refl _) _)).1) ?_
      clear hK K
      (try simp only [Act.put, List.setIfInBounds_toArray, List.set_cons_zero, List.set_cons_succ])
      refine wpAnyT_one (i := 12) (o := { dst := some 30, op := Op.call { callee := Callee.builtin Builtin.append, args := #[Operand.tmp 27, Operand.tmp 29], argTypes := #[22, 22] }, type := 22, pos := "settle.go:32", after := #[{ on := 9, ground := Ground.data }, { on := 11, ground := Ground.data }], guard := none }) rfl (by kernel_rfl) (fun K hK => ?_)
      refine step_append_any _ rfl (.tmp 27) (.tmp 29) _ rfl (w.heap.size + 2) 3 i0 _ 1 8 Tryz.underlying22 HI0.out.1 HI0.out.2.1 HI0.out.2.2.1 HI0.out.2.2.2 rfl (by omega) (.slice A5 yl5 c5) yl5 (y5.map (Value.int .i64)) (by first | rfl | (simp [Act.eval])) (HC5.out _ (HD5.out.alloc (Nat.le_refl _) _)).2 (W5.heap.size + 1) (some ⟨W5.heap.size, 0, none⟩) 1 1 [.int .i64 (k : Int)] (by first | rfl | (simp [Act.eval])) (reads_one _ _ _) (by simp [Value.oneCell']) (by simp only [maxLen]; omega) (by omega) (by first | (simp; done) | (simp; omega) | (simp at hsz5 ⊢; omega)) ?_
      intro v5 w5 hown hg hat
      obtain ⟨B5, k5, hf⟩ := own_slice_k hown
      subst hf
      obtain ⟨⟨q1, q2⟩, qf, ql⟩ := HW5.out _ hg
      refine hK.out _ _ (fun _ => ⟨q1, q2⟩) ?_
      clear hK K
      (try simp only [Act.put, List.setIfInBounds_toArray, List.set_cons_zero, List.set_cons_succ])
      have HO5 := Lib.hid hown
      have HGR := Lib.hid hg
      have HAT := Lib.hid hat
      clear hown hg hat
      refine wpAnyT_one (i := 13) (o := { dst := some 31, op := Op.indexAddr 24 (Operand.tmp 18) (Operand.tmp 21), type := 0, pos := "settle.go:32", after := #[{ on := 0, ground := Ground.data }, { on := 3, ground := Ground.data }, { on := 0, ground := Ground.phase }, { on := 1, ground := Ground.phase }, { on := 2, ground := Ground.phase }, { on := 3, ground := Ground.phase }, { on := 4, ground := Ground.phase }, { on := 5, ground := Ground.phase }, { on := 6, ground := Ground.phase }, { on := 7, ground := Ground.phase }, { on := 8, ground := Ground.phase }, { on := 9, ground := Ground.phase }, { on := 10, ground := Ground.phase }, { on := 11, ground := Ground.phase }, { on := 12, ground := Ground.phase }], guard := none }) rfl (by kernel_rfl) (fun K hK => ?_)
      go_simp
      refine hK.out _ _ (fun h => absurd h (by decide)) ?_
      clear hK K
      (try simp only [Act.put, List.setIfInBounds_toArray, List.set_cons_zero, List.set_cons_succ])
      refine wpAnyT_one (i := 14) (o := { dst := none, op := Op.store 22 (Operand.tmp 31) (Operand.tmp 30), type := 0, pos := "settle.go:32", after := #[{ on := 13, ground := Ground.data }, { on := 12, ground := Ground.data }, { on := 12, ground := Ground.chain }, { on := 0, ground := Ground.phase }, { on := 1, ground := Ground.phase }, { on := 2, ground := Ground.phase }, { on := 3, ground := Ground.phase }, { on := 4, ground := Ground.phase }, { on := 5, ground := Ground.phase }, { on := 6, ground := Ground.phase }, { on := 7, ground := Ground.phase }, { on := 8, ground := Ground.phase }, { on := 9, ground := Ground.phase }, { on := 10, ground := Ground.phase }, { on := 11, ground := Ground.phase }, { on := 12, ground := Ground.phase }], guard := none }) rfl (by kernel_rfl) (fun K hK => ?_)
      go_simp
      refine hK.out _ _ (fun h => absurd h (by decide)) ?_
      clear hK K
      (try simp only [Act.put, List.setIfInBounds_toArray, List.set_cons_zero, List.set_cons_succ])
      refine wpAnyT_done (by kernel_rfl) ?_
      have happ := (HN5.out.on (HD5.out.alloc (Nat.le_refl _) (.cells #[.int .i64 (k : Int)] 3))).app (i := (k : Int)) HUY.out.1 HUY.out.2 (by rw [HYQ.out]; exact HO5.out) HGR.out (by rcases HAT.out with e | e; exact .inl e; exact .inr e)
      rw [← addU_of HUY.out.2, ← HUS.out] at happ
      have HN7 := Lib.hid happ
      clear happ q1 q2 qf ql
      go_wp2
      go_roundg (nL - (k + 1))
      case measure => omega
      case rel => exact ⟨k + 1, _, by omega, by go_num, rfl, HN7.out⟩
    · have hke : k = nL := by omega
      have HJ := Lib.hid (And.intro hnw.below (hnw.jrow hn1))
      clear hnw
      have hlt2 : ¬ (k : Int) < (nL : Int) := by omega
      have HJ2 : Hid (JRow wr w.heap.size (.slice (some ⟨w.heap.size + 1, 0, none⟩) n n) vs (takersN C n nL)) := Lib.hid (by rw [← hke]; exact HJ.out.2)
      clear hke hlt
      go_wp2
      go_ret
      first
        | exact ⟨_, vs, rfl, HJ.out.1, HJ2.out⟩
        | exact ⟨rfl, HJ.out.1, vs, HJ2.out⟩
        | exact ⟨_, rfl, HJ.out.1, vs, HJ2.out⟩
        | exact ⟨vs, rfl, HJ.out.1, HJ2.out⟩

/-- The latches that are not 2, and have not the value of their Next. -/
def unl (C : Circ) (T : List Int) : Nat → List Int
  | 0 => []
  | k + 1 => if T.getD ((C.latches.getD k (0, 0, 0)).1 / 2).toNat 0 ≠ 2 ∧ T.getD ((C.latches.getD k (0, 0, 0)).1 / 2).toNat 0 ≠ lit3 T (C.latches.getD k (0, 0, 0)).2.1 then unl C T k ++ [(k : Int)] else unl C T k
theorem unl_at {C : Circ} {T : List Int} {k : Nat} {z : Tri} (hz : C.latches[k]? = some z) : unl C T (k + 1) = if T.getD (z.1 / 2).toNat 0 ≠ 2 ∧ T.getD (z.1 / 2).toNat 0 ≠ lit3 T z.2.1 then unl C T k ++ [(k : Int)] else unl C T k := by
  have hzD : C.latches.getD k (0, 0, 0) = z := by simp [List.getD_eq_getElem?_getD, hz]
  show (if T.getD ((C.latches.getD k (0, 0, 0)).1 / 2).toNat 0 ≠ 2 ∧ T.getD ((C.latches.getD k (0, 0, 0)).1 / 2).toNat 0 ≠ lit3 T (C.latches.getD k (0, 0, 0)).2.1 then unl C T k ++ [(k : Int)] else unl C T k) = _
  rw [hzD]
theorem unl_short (C : Circ) (T : List Int) : ∀ k, (unl C T k).length ≤ k
  | 0 => by simp [unl]
  | k + 1 => by
    have := unl_short C T k
    unfold unl
    split <;> simp <;> omega
theorem unl_mem {C : Circ} {T : List Int} : ∀ (k : Nat), k ≤ C.latches.length → ∀ x : Int, x ∈ unl C T k ↔ ∃ (i : Nat) (z : Tri), i < k ∧ x = (i : Int) ∧ C.latches[i]? = some z ∧ T.getD (z.1 / 2).toNat 0 ≠ 2 ∧ T.getD (z.1 / 2).toNat 0 ≠ lit3 T z.2.1
  | 0, _, x => by simp [unl]
  | k + 1, hk, x => by
    have ih := unl_mem (C := C) (T := T) k (by omega) x
    obtain ⟨z, hz⟩ : ∃ z, C.latches[k]? = some z := ⟨_, List.getElem?_eq_getElem (by omega)⟩
    rw [unl_at hz]
    constructor
    · intro h
      by_cases e1 : T.getD (z.1 / 2).toNat 0 ≠ 2 ∧ T.getD (z.1 / 2).toNat 0 ≠ lit3 T z.2.1
      · rw [if_pos e1] at h
        rcases List.mem_append.1 h with h | h
        · obtain ⟨i, y, q1, q2⟩ := ih.1 h
          exact ⟨i, y, by omega, q2⟩
        · exact ⟨k, z, by omega, by simpa using h, hz, e1⟩
      · rw [if_neg e1] at h
        obtain ⟨i, y, q1, q2⟩ := ih.1 h
        exact ⟨i, y, by omega, q2⟩
    · rintro ⟨i, y, q1, q2, q3, q4⟩
      by_cases e : i = k
      · subst e
        rw [hz] at q3
        injection q3 with q3
        subst q3
        rw [if_pos q4]; exact List.mem_append_right _ (by simp [q2])
      · have h2 := ih.2 ⟨i, y, by omega, q2, q3, q4⟩
        split
        · exact List.mem_append_left _ h2
        · exact h2
structure UN (w0 wr : World) (cs : Array Value) (v : Value) (out : List Int) : Prop where
  below : Below w0.heap.size w0 wr
  cb : Blk wr w0.heap.size 29 cs
  own : wr.ownsRow (w0.heap.size + 1) 3 1 v out.length (out.map (Value.int .i64))
theorem UN.alloc {w0 wr : World} {cs : Array Value} {v : Value} {out : List Int} (h : UN w0 wr cs v out) (o : Obj) : UN w0 (wr.alloc o) cs v out :=
  ⟨h.below.alloc (h.below.size) _, h.cb.alloc _, h.own.alloc _⟩

set_option maxHeartbeats 8000000 in
set_option maxRecDepth 100000 in
theorem unlike_any (w : World) (V : CV) (C : Circ) (v : Value) (T : List Int) (h : C.In w V) (hrt : Right C) (htc : TabC w) (hv : RowE 1 encI w v T) (h3 : Row3 T) (hT : T.length = C.max.toNat + 1) :
    Calls Tryz.prog 35 #[V.val C.max, v] w fun e w' => ∃ v2, e = .returned v2 ∧ Below w.heap.size w w' ∧ w'.ownsRow w.heap.size 3 1 v2 (unl C T C.latches.length).length ((unl C T C.latches.length).map (Value.int .i64)) := by
  have hnl := hrt.nl
  have hm0 := hrt.m0
  have hm1 := hrt.m1
  have HL : Hid (∀ z ∈ C.latches, 0 ≤ z.1 ∧ z.1 / 2 < (T.length : Int) ∧ 0 ≤ z.2.1 ∧ z.2.1 / 2 < (T.length : Int)) := Lib.hid (fun z hz => by have h1 := (hrt.l z hz).1; have h2 := (hrt.l z hz).2.1; unfold LitOk at h2; omega)
  have HVR := Lib.hid (fun (l : Int) (wx : World) (hb : Below w.heap.size w wx) (h0 : 0 ≤ l) (h1 : l / 2 < (T.length : Int)) => lit3_cell (hv.below hb) h0 h1)
  have HVX := Lib.hid (fun (wx : World) (l : Int) (hx : Below w.heap.size w wx) (h0 : 0 ≤ l) (h1 : l / 2 < (T.length : Int)) => valueOf_any wx v T l (htc.below hx) (hv.below hx) (row3_at h3 _) h0 h1 (by omega))
  obtain ⟨AL, cL, eL, _, _, rL⟩ := h.l
  obtain ⟨Vi, Vl, Vo, Vb, Vc, Vj, Vf, Va, Vs, Vt⟩ := V
  simp only at eL
  subst eL
  obtain ⟨vA, vc, ev, _⟩ := hv
  subst ev
  have HRL := Lib.hid rL
  have HUA := Lib.hid (fun (k : Nat) (z : Tri) (hz : C.latches[k]? = some z) => unl_at (T := T) hz)
  have HUS := Lib.hid (unl_short C T)
  obtain ⟨i0, hi0, hz0, hz1, hz2⟩ := info_of2 infoI2
  have HI0 := Lib.hid (And.intro hi0 (And.intro hz0 (And.intro hz1 hz2)))
  have HS0 : Hid (UN w (w.alloc (.cells #[.int .i64 C.max, Vi, .slice AL C.latches.length cL, Vo, Vb, Vc, Vj, Vf, Va, Vs, Vt] 29)) #[.int .i64 C.max, Vi, .slice AL C.latches.length cL, Vo, Vb, Vc, Vj, Vf, Va, Vs, Vt] (.slice none 0 0) (unl C T 0)) :=
    Lib.hid ⟨(Below.refl w.heap.size w).alloc (Nat.le_refl _) _, Blk.new w _ _, World.ownsRow_nil _ _ _ _⟩
  obtain ⟨n, hn⟩ : ∃ n, C.latches.length = n := ⟨_, rfl⟩
  obtain ⟨m, hmm⟩ : ∃ m, C.max = m := ⟨_, rfl⟩
  obtain ⟨tl, htl⟩ : ∃ m, T.length = m := ⟨_, rfl⟩
  rw [hn] at hnl HS0
  rw [hmm] at HS0 hm0 hm1 hT
  rw [htl] at HL HVR HVX
  rw [hn, hmm, htl]
  rw [htl] at hT
  have HN := Lib.hid hn
  have HTLm : Hid (tl = m.toNat + 1) := Lib.hid hT
  clear rL h hrt hT hn hmm htl hi0 hz0 hz1 hz2
  generalize unl C T = N at *
  go_enter Tryz.func35, Tryz.ntmps35
  go_wp2
  go_loopg [5, 12] n (fun k v5 j wx => ∃ q : Nat, q ≤ n ∧ k = n - q ∧ j = .int .i64 q ∧ UN w wx #[.int .i64 m, Vi, .slice AL n cL, Vo, Vb, Vc, Vj, Vf, Va, Vs, Vt] v5 (N q))
  case atStart => exact ⟨0, Nat.zero_le _, rfl, rfl, HS0.out⟩
  case round =>
    obtain ⟨q, hq, hgk, rfl, hst⟩ := hrel
    subst hgk
    obtain ⟨uA, uc, ue⟩ := own_slice_k hst.own
    subst ue
    have HST := Lib.hid hst
    clear hst
    by_cases hlt : q < n
    · obtain ⟨z, hz⟩ : ∃ z, C.latches[q]? = some z := ⟨_, List.getElem?_eq_getElem (by rw [HN.out]; exact hlt)⟩
      obtain ⟨b, off, e, hb, hcell⟩ := HRL.out q z hz
      subst e
      have HZ := Lib.hid (HL.out z (List.mem_of_getElem? hz))
      have HXZ := Lib.hid (HUA.out q z hz)
      obtain ⟨z0, z1, z2⟩ := z
      have h0 := (HST.out.below.cell (p := ⟨b, off + (q * 3 + 0), none⟩) hb).trans (hcell 0 _ rfl)
      have h1 := (HST.out.below.cell (p := ⟨b, off + (q * 3 + 1), none⟩) hb).trans (hcell 1 _ rfl)
      have h2 := (HST.out.below.cell (p := ⟨b, off + (q * 3 + 2), none⟩) hb).trans (hcell 2 _ rfl)
      simp only [Nat.add_zero, ← Nat.add_assoc] at h0 h1 h2
      obtain ⟨hz0, hz1, hz2, hz3⟩ := HZ.out
      simp only at hz0 hz1 hz2 hz3
      have hq2 := tdiv_nn (b := 2) hz0
      have hq3 : 0 ≤ z0 / 2 := by omega
      have hq4 : IntKind.i64.wrap (z0 / 2) = z0 / 2 := by have := HTLm.out; simp [IntKind.wrap, IntKind.bits, IntKind.signed]; omega
      have HSA := Lib.hid (HST.out.alloc (.cells #[.int .i64 z0, .int .i64 z1, .int .i64 z2] 43))
      obtain ⟨vb, voff, vc2, ev, hvc⟩ := HVR.out z0 _ HSA.out.below hz0 hz1
      injection ev with e1 e2 e3
      clear e2
      subst e1 e3
      have HQ : Hid ((N q).length ≤ 16384) := Lib.hid (by have := HUS.out q; omega)
      simp only at HXZ
      clear hcell hz
      by_cases hA : T.getD (z0 / 2).toNat 0 = 2
      · have HN1 : Hid (N (q + 1) = N q) := Lib.hid (by rw [HXZ.out, if_neg (fun h => h.1 hA)])
        rw [hA] at hvc
        clear hA HXZ
        go_wp2
        go_roundg (n - (q + 1))
        case measure => omega
        case rel => exact ⟨q + 1, by omega, rfl, by go_num, by rw [HN1.out]; exact HSA.out⟩
      · have HA := Lib.hid hA
        have HR : Hid (Reads ((wr.alloc (.cells #[.int .i64 z0, .int .i64 z1, .int .i64 z2] 43)).alloc (.cells #[.int .i64 (q : Int)] 3)) (wr.heap.size + 1 + 1) 1 (some ⟨wr.heap.size + 1, 0, none⟩) 1 [.int .i64 (q : Int)]) := Lib.hid (by simpa using reads_one (wr.alloc (.cells #[.int .i64 z0, .int .i64 z1, .int .i64 z2] 43)) (.int .i64 (q : Int)) 3)
        obtain ⟨tz, htz⟩ : ∃ x, T.getD (z0 / 2).toNat 0 = x := ⟨_, rfl⟩
        obtain ⟨lz, hlz⟩ : ∃ x, lit3 T z1 = x := ⟨_, rfl⟩
        rw [htz] at hA hvc HXZ HA
        rw [hlz] at HXZ
        have HVY : Hid (∀ wx, Below w.heap.size w wx → Calls Tryz.prog 66 #[.slice (some ⟨vb, voff, none⟩) tl vc, .int .i64 z1] wx fun e w' => e = .returned (.int .i64 lz) ∧ w' = wx) := Lib.hid (by rw [← hlz]; exact fun wx hx => HVX.out wx z1 hx hz2 hz3)
        have hA2 : (tz != 2) = true := by simpa using hA
        clear HVX htz hlz
        by_cases hB : tz = lz
        · have HN1 : Hid (N (q + 1) = N q) := Lib.hid (by rw [HXZ.out, if_neg (fun h => h.2 hB)])
          have hB2 : (tz != lz) = false := by simpa using hB
          clear hA HXZ hB
          go_wp2_with (go_at_call 66; refine (HVY.out _ HSA.out.below).mono ?_; rintro e w5 ⟨rfl, rfl⟩)
          go_roundg (n - (q + 1))
          case measure => omega
          case rel => exact ⟨q + 1, by omega, rfl, by go_num, by rw [HN1.out]; exact HSA.out⟩
        · have HN1 : Hid (N (q + 1) = N q ++ [(q : Int)]) := Lib.hid (by rw [HXZ.out, if_pos ⟨hA, hB⟩])
          have hB2 : (tz != lz) = true := by simpa using hB
          clear hA HXZ hB
          go_wp2_with (first
            | (go_at_call 66; refine (HVY.out _ HSA.out.below).mono ?_; rintro e w5 ⟨rfl, rfl⟩)
            | (at_builtin; refine wpList_append_any _ rfl (.tmp 33) (.tmp 35) _ rfl (w.heap.size + 1) 3 i0 _ 1 8 Tryz.underlying22 HI0.out.1 HI0.out.2.1 HI0.out.2.2.1 HI0.out.2.2.2 rfl (by omega) (.slice uA (N q).length uc) (N q).length ((N q).map (Value.int .i64)) rfl (HSA.out.own.alloc _) (wr.heap.size + 1 + 1) (some ⟨wr.heap.size + 1, 0, none⟩) 1 1 [.int .i64 (q : Int)] rfl HR.out (by simp [Value.oneCell']) (by have := HQ.out; simp only [maxLen]; omega) (by have := HQ.out; omega) (by have := HST.out.cb.lt; simp; omega) ?_; intro v2 w2 hown2 hg2 hat2; have HB2 := Lib.hid ((HSA.out.below.alloc HSA.out.below.size (.cells #[Value.int .i64 (q : Int)] 3)).grown hg2 (by have := HST.out.below.size; simp; omega) (fun k hk => by have := (HSA.out.own.lt k hk).1; omega)); have HC2 := Lib.hid ((HSA.out.cb.alloc (.cells #[Value.int .i64 (q : Int)] 3)).grown hg2 (fun e => own_blk_ne HSA.out.own HSA.out.cb (by decide) e.symm)); have HO2 := Lib.hid hown2; clear hown2 hg2 hat2))
          go_roundg (n - (q + 1))
          case measure => omega
          case rel => exact ⟨q + 1, by omega, rfl, by go_num, HB2.out, HC2.out, by rw [HN1.out]; simpa using HO2.out⟩
    · have hqe : n = q := by omega
      subst hqe
      clear hlt hq
      go_wp2
      go_ret
      exact ⟨_, rfl, HST.out.below, own_le HST.out.own (by omega)⟩
end Go.Proofs.YtbeaicmjohlboaaGreatDoor

namespace Go.Proofs.YtbeaicmjohlboaaGreatDoor
open Go.RowKit

def keep2 (C : Circ) (T : List Int) (i : Int) : Bool := decide (T.getD ((C.latches.getD i.toNat (0, 0, 0)).1 / 2).toNat 0 ≠ 2)
/-- The latches that turn next: whose Next was changed, and that are not 2. -/
def wsN (C : Circ) (T : List Int) (K : List (List Int)) (new : List (Int × Int)) : List Int := new.flatMap fun p => (K.getD p.1.toNat []).filter (keep2 C T)
theorem wsN_snoc (C : Circ) (T : List Int) (K : List (List Int)) (new : List (Int × Int)) (p : Int × Int) : wsN C T K (new ++ [p]) = wsN C T K new ++ (K.getD p.1.toNat []).filter (keep2 C T) := by simp [wsN]
theorem wsN_short {C : Circ} {T : List Int} {K : List (List Int)} {b : Nat} (h : ∀ v, (K.getD v []).length ≤ b) : ∀ new : List (Int × Int), (wsN C T K new).length ≤ new.length * b
  | [] => by simp [wsN]
  | p :: r => by
    have ih := wsN_short (C := C) (T := T) h r
    have h1 := h p.1.toNat
    have h2 := List.length_filter_le (keep2 C T) (K.getD p.1.toNat [])
    show ((K.getD p.1.toNat []).filter (keep2 C T) ++ wsN C T K r).length ≤ (r.length + 1) * b
    rw [List.length_append, Nat.succ_mul]
    omega
theorem keep2_at {C : Circ} {T : List Int} {k : Nat} {z : Tri} (hz : C.latches[k]? = some z) : keep2 C T (k : Int) = decide (T.getD (z.1 / 2).toNat 0 ≠ 2) := by
  have hzD : C.latches.getD (k : Int).toNat (0, 0, 0) = z := by simp [List.getD_eq_getElem?_getD, hz]
  unfold keep2
  rw [hzD]
theorem wsN_mem {C : Circ} {O L U : List Int} {n : Nat} {new : List (Int × Int)} (h0 : (checkR C).2 = 0) (hO : IsOrd C O) (hL : L.length = C.latches.length) (hU : U = val3 C O L (all2 C)) (hr : ∀ z ∈ C.latches, (z.2.1 / 2).toNat < n) (hn : ∀ p ∈ new, p.1.toNat < n) :
    ∀ x : Int, x ∈ wsN C U (takersN C n C.latches.length) new ↔ ∃ (k : Nat) (z : Tri) (p : Int × Int), x = (k : Int) ∧ C.latches[k]? = some z ∧ p ∈ new ∧ (z.2.1 / 2).toNat = p.1.toNat ∧ L.getD k 0 ≠ 2 := by
  have hB := valB (O := O) (L := L) (I := all2 C) h0 hO hL (by simp [all2])
  rw [← hU] at hB
  have hl : ∀ (k : Nat) (z : Tri), C.latches[k]? = some z → U.getD (z.1 / 2).toNat 0 = L.getD k 0 := fun k z hz => by
    have hk := (List.getElem?_eq_some_iff.1 hz).1
    exact hB.l k z _ hz (by rw [List.getD_eq_getElem?_getD, List.getElem?_eq_getElem (by omega)]; rfl)
  intro x
  unfold wsN
  rw [List.mem_flatMap]
  constructor
  · rintro ⟨p, hp, hx⟩
    obtain ⟨hx1, hx2⟩ := List.mem_filter.1 hx
    obtain ⟨i, z, q1, q2, q3, q4⟩ := (takersN_mem hr _ (Nat.le_refl _) p.1.toNat (hn p hp) x).1 hx1
    subst q2
    rw [keep2_at q3, hl i z q3] at hx2
    exact ⟨i, z, p, rfl, q3, hp, q4, by simpa using hx2⟩
  · rintro ⟨k, z, p, rfl, hz, hp, e, h2⟩
    refine ⟨p, hp, List.mem_filter.2 ⟨(takersN_mem hr _ (Nat.le_refl _) p.1.toNat (hn p hp) _).2 ⟨k, z, (List.getElem?_eq_some_iff.1 hz).1, rfl, hz, e⟩, ?_⟩⟩
    rw [keep2_at hz, hl k z hz]
    simpa using h2
theorem row3_two1 : ∀ (us L : List Int), Row3 L → Row3 (two1 us L)
  | [], _, h => h
  | x :: r, L, h => row3_two1 r (L.set x.toNat 2) (row3_set h _ (.inr (.inr rfl)))
theorem jrow_far {wx w1 w2 : World} {B : Nat} {v : Value} {us : List Value} {zss : List (List Int)} {o : Option Nat} (h : JRow wx B v us zss) (k : JRow w1 B v us zss) (ho : ∀ g, o = some g → w1.heap.size ≤ g) (hg : wx.grownBy w2 o) : JRow w2 B v us zss :=
  ⟨h.ul, own_of_block h.own fun g hv => hg.block g (h.own.lt g hv).2 (fun e => by have h1 := (k.own.lt g hv).2; have h2 := ho g e.symm; omega),
    fun i u zs hu hz => own_of_block (h.each i u zs hu hz) fun g hv => hg.block g ((h.each i u zs hu hz).lt g hv).2 (fun e => by have h1 := ((k.each i u zs hu hz).lt g hv).2; have h2 := ho g e.symm; omega)⟩
/-- What stands while settle runs. -/
structure ST (w0 w1 wx : World) (S : SpB) (bx : Nat) (cs : Array Value) (B : Nat) (kv : Value) (ks : List Value) (K : List (List Int)) (H : List Bool) (us : List Value) (US : List (List Int)) (tv : Value) (T : List Int) (tr : List (Int × Int)) (ut : Value) (xs : List Int) : Prop where
  sp : SP w0 wx S tv T H tr us US
  cb : Blk wx bx 29 cs
  tk : JRow wx B kv ks K
  tu : wx.ownsRow w1.heap.size 3 1 ut xs.length (xs.map (Value.int .i64))
  sz : w1.heap.size ≤ wx.heap.size
  b0 : w0.heap.size ≤ B
  bb : w0.heap.size ≤ bx
  b1 : B ≤ w1.heap.size
  ul : JRow w1 w0.heap.size S.uV us US
  kl : JRow w1 B kv ks K
section
variable {w0 w1 wx : World} {S : SpB} {bx : Nat} {cs : Array Value} {B : Nat} {kv : Value} {ks : List Value} {K : List (List Int)} {H : List Bool} {us : List Value} {US : List (List Int)} {tv : Value} {T : List Int} {tr : List (Int × Int)} {ut : Value} {xs : List Int}
theorem ST.on {w2 : World} (h : ST w0 w1 wx S bx cs B kv ks K H us US tv T tr ut xs) (hb : Below wx.heap.size wx w2) : ST w0 w1 w2 S bx cs B kv ks K H us US tv T tr ut xs :=
  ⟨h.sp.on hb, h.cb.below hb h.cb.lt, h.tk.below hb, own_below h.tu hb, Nat.le_trans h.sz hb.size, h.b0, h.bb, h.b1, h.ul, h.kl⟩
/-- A latch more is made 2. -/
theorem ST.loose {w2 : World} {tv2 : Value} {T2 : List Int} {tr2 : List (Int × Int)} (h : ST w0 w1 wx S bx cs B kv ks K H us US tv T tr ut xs) (hk : KP S.gv wx w2) (hs : SP w0 w2 S tv2 T2 H tr2 us US) : ST w0 w1 w2 S bx cs B kv ks K H us US tv2 T2 tr2 ut xs := by
  have hgv := h.sp.hgv
  have hbb := h.bb
  have hb0 := h.b0
  have hb1 := h.b1
  have hcb : wx.heap[bx]? = some (Obj.cells cs 29 (0, 0)) := h.cb
  refine ⟨hs, ?_, hk.jrow h.tk (by omega), hk.own h.tu (by decide) (by decide) (by omega), Nat.le_trans h.sz hk.size, hb0, hbb, hb1, h.ul, h.kl⟩
  refine (hk.blk bx h.cb.lt (by omega) (fun cs2 hc => ?_) (fun cs2 hc => ?_)).trans hcb
  · have h2 : wx.heap[bx]? = some (Obj.cells cs2 55 (0, 0)) := hc
    rw [hcb] at h2
    injection h2 with h2
    injection h2 with _ h2 _
    exact absurd h2 (by decide)
  · have h2 : wx.heap[bx]? = some (Obj.cells cs2 69 (0, 0)) := hc
    rw [hcb] at h2
    injection h2 with h2
    injection h2 with _ h2 _
    exact absurd h2 (by decide)
/-- The row of what turns is another one. -/
theorem ST.turn {w2 : World} {ut2 : Value} {ys : List Int} (h : ST w0 w1 wx S bx cs B kv ks K H us US tv T tr ut xs) (hg : wx.grownBy w2 ut.ownBlock) (ho : w2.ownsRow w1.heap.size 3 1 ut2 ys.length (ys.map (Value.int .i64))) : ST w0 w1 w2 S bx cs B kv ks K H us US tv T tr ut2 ys := by
  have hgv := h.sp.hgv
  have hbb := h.bb
  have hb0 := h.b0
  have hb1 := h.b1
  have hlo : ∀ g, ut.ownBlock = some g → w1.heap.size ≤ g := fun g e => (h.tu.lt g e).1
  have hgr := h.sp.grown
  refine ⟨⟨⟨hg.os.trans hgr.os, hg.tape.trans hgr.tape, hg.output.trans hgr.output, Nat.le_trans hgr.size hg.size, fun k hk hne => (hg.block k (Nat.lt_of_lt_of_le hk hgr.size) (fun e => by have := hlo k e.symm; omega)).trans (hgr.block k hk hne)⟩, hgv, h.sp.hbs, h.sp.hgh, h.sp.tl, h.sp.hl, h.sp.ul,
    Blk.grown h.sp.val hg (fun e => by have := hlo _ e.symm; omega), Blk.grown h.sp.held hg (Ne.symm (own_blk_ne h.tu h.sp.held (by decide))), h.sp.box.grown hg (Ne.symm (own_blk_ne h.tu h.sp.box (by decide))), own_other h.sp.trail h.tu (by decide) hg, jrow_far h.sp.users h.ul hlo hg⟩,
    h.cb.grown hg (Ne.symm (own_blk_ne h.tu h.cb (by decide))), jrow_far h.tk h.kl hlo hg, ho, Nat.le_trans h.sz hg.size, hb0, hbb, hb1, h.ul, h.kl⟩
/-- Nothing turns any more. -/
theorem ST.none {A : Option Addr} {c : Nat} (h : ST w0 w1 wx S bx cs B kv ks K H us US tv T tr (.slice A xs.length c) xs) : ST w0 w1 wx S bx cs B kv ks K H us US tv T tr (.slice A 0 c) [] :=
  h.turn (World.grownBy.refl wx _) (by have := own_prefix h.tu (m := 0) (by omega); simpa using this)
end
/-- What stands between two latches that are made 2. -/
structure SQ (w0 w1 wx : World) (S : SpB) (C : Circ) (O L0 : List Int) (bx : Nat) (cs : Array Value) (B : Nat) (kv : Value) (ks : List Value) (K : List (List Int)) (H : List Bool) (us : List Value) (US : List (List Int)) (ut : Value) (xs : List Int) (T0 : List Int) (tr0 : List (Int × Int)) (q : Nat) : Prop where
  ex : ∃ (tv : Value) (T : List Int) (new : List (Int × Int)), ST w0 w1 wx S bx cs B kv ks K H us US tv T (tr0 ++ new) ut xs ∧ T = val3 C O (two1 (xs.take q) L0) (all2 C) ∧ Trl T (tr0 ++ new) ∧ Ch T0 T new
theorem SQ.next {w0 w1 wx w2 : World} {S : SpB} {C : Circ} {O L0 : List Int} {bx : Nat} {cs : Array Value} {B : Nat} {kv : Value} {ks : List Value} {K : List (List Int)} {H : List Bool} {us : List Value} {US : List (List Int)} {ut : Value} {xs : List Int} {T0 : List Int} {tr0 : List (Int × Int)} {q : Nat}
    {tv : Value} {T : List Int} {new : List (Int × Int)} {i : Nat} (hH : ∀ v : Nat, H.getD v false = false) (hx : xs[q]? = some (i : Int)) (h : ST w0 w1 wx S bx cs B kv ks K H us US tv T (tr0 ++ new) ut xs) (hc : Ch T0 T new)
    (hl : LoosePost w0 wx w2 S C T (val3 C O ((two1 (xs.take q) L0).set i 2) (all2 C)) H (tr0 ++ new) us US) : SQ w0 w1 w2 S C O L0 bx cs B kv ks K H us US ut xs T0 tr0 (q + 1) := by
  obtain ⟨hk, tv2, T2, tr2, hsp, htr, hcase⟩ := hl
  have hset : (two1 (xs.take q) L0).set i 2 = two1 (xs.take (q + 1)) L0 := by
    have e : xs.take (q + 1) = xs.take q ++ [(i : Int)] := by rw [List.take_add_one, hx]; rfl
    rw [e, two1_snoc]; rfl
  rcases hcase with ⟨_, e1, new2, e2, hc2⟩ | ⟨⟨v, hv, _⟩, _⟩
  · rw [← e1] at hc2
    rw [hset] at e1
    subst e2
    rw [List.append_assoc] at hsp htr
    exact ⟨tv2, T2, new ++ new2, h.loose hk hsp, e1, htr, hc.trans hc2⟩
  · rw [hH v] at hv; cases hv
end Go.Proofs.YtbeaicmjohlboaaGreatDoor

namespace Go.Proofs.YtbeaicmjohlboaaGreatDoor
open Go.RowKit

theorem row3_all2 (C : Circ) : Row3 (all2 C) := fun x hx => by
  unfold all2 at hx
  rw [List.mem_replicate] at hx
  exact .inr (.inr hx.2)
/-- What stands, as plain data, ahead of each round of settle. -/
structure SD (C : Circ) (O L T : List Int) (tr : List (Int × Int)) (xs : List Int) (f tt : Nat) (R : List Int × Nat) : Prop where
  t : T = val3 C O L (all2 C)
  trl : Trl T tr
  tu : Turn C L T xs
  len : L.length = C.latches.length
  r3 : Row3 L
  ct : (L.filter (fun x => decide (x ≠ 2))).length < f
  eq : settle3 C O f L tt = R
  tf : tt + f ≤ 20000
  xl : xs.length ≤ 500000000
section
variable {C : Circ} {O L T : List Int} {tr : List (Int × Int)} {xs : List Int} {f tt : Nat} {R : List Int × Nat}
theorem SD.stop (h : SD C O L T tr xs f tt R) (hx : xs = []) : R = (L, tt) := by
  have h1 := (turn_none h.len h.t h.tu).1 hx
  have h2 := h.eq
  have h3 := h.ct
  obtain ⟨g, rfl⟩ : ∃ g, f = g + 1 := ⟨f - 1, by omega⟩
  unfold settle3 at h2
  rw [if_pos h1] at h2
  exact h2.symm
theorem SD.some (h : SD C O L T tr xs f tt R) (h0 : (checkR C).2 = 0) (hO : IsOrd C O) (hx : xs ≠ []) {U : List Int} (hU : U = val3 C O (two1 xs L) (all2 C)) {new : List (Int × Int)} (hc : Ch T U new) : 0 < new.length := by
  obtain ⟨x, r, rfl⟩ : ∃ x r, xs = x :: r := by cases xs with | nil => exact absurd rfl hx | cons x r => exact ⟨x, r, rfl⟩
  obtain ⟨k, z, q1, q2, q3, q4⟩ := (h.tu x).1 (by simp)
  have hk := (List.getElem?_eq_some_iff.1 q2).1
  have hl := h.len
  have hB := valB (O := O) (L := L) (I := all2 C) h0 hO h.len (by simp [all2])
  rw [← h.t] at hB
  have hB2 := valB (O := O) (L := two1 (x :: r) L) (I := all2 C) h0 hO (by rw [two1_len]; exact h.len) (by simp [all2])
  rw [← hU] at hB2
  have e1 := hB.l k z (L.getD k 0) q2 (by rw [List.getD_eq_getElem?_getD, List.getElem?_eq_getElem (by omega)]; rfl)
  have e2 := hB2.l k z ((two1 (x :: r) L).getD k 0) q2 (by rw [List.getD_eq_getElem?_getD, List.getElem?_eq_getElem (by rw [two1_len]; omega)]; rfl)
  rw [two1_get (x :: r) L k (by omega) (fun y hy => by obtain ⟨_, _, q, _⟩ := (h.tu y).1 hy; omega), if_pos (by rw [← q1]; simp)] at e2
  rcases hc.all (z.1 / 2).toNat with q | q
  · rw [e1, e2] at q; exact absurd q.symm q3
  · exact List.length_pos_of_mem q
theorem SD.next (h : SD C O L T tr xs f tt R) (h0 : (checkR C).2 = 0) (hO : IsOrd C O) (hx : xs ≠ []) {U : List Int} (hU : U = val3 C O (two1 xs L) (all2 C)) {new : List (Int × Int)} (ht : Trl U (tr ++ new)) (hc : Ch T U new) (hn : T.length ≤ 20000) (hnl : C.latches.length ≤ 16384) {n : Nat} (hr : ∀ z ∈ C.latches, (z.2.1 / 2).toNat < n) (hnn : n = T.length) :
    SD C O (two1 xs L) U (tr ++ new) (wsN C U (takersN C n C.latches.length) new) (f - 1) (tt + 1) R := by
  have e1 := turn_step h.len h.t h.tu
  have hne : stepS C O L ≠ L := fun e => hx ((turn_none h.len h.t h.tu).2 e)
  have h3 := h.ct
  have h2 := h.eq
  have h5 := h.tf
  obtain ⟨g, rfl⟩ : ∃ g, f = g + 1 := ⟨f - 1, by omega⟩
  unfold settle3 at h2
  rw [if_neg hne] at h2
  have hnl2 : L.length = (next3 C (val3 C O L (all2 C))).length := by rw [next3_len]; exact h.len
  have hsl : (stepS C O L).length = L.length := join3_len _ _ hnl2
  have hle : ∀ k, Le3 (L.getD k 0) ((stepS C O L).getD k 0) := fun k => by
    unfold stepS
    rw [join3_get hnl2]
    split
    · exact .inl rfl
    · exact .inr rfl
  have hlt := cnt_lt hsl hle hne
  have hlen : (two1 xs L).length = C.latches.length := by rw [two1_len]; exact h.len
  have hb : ∀ p ∈ new, p.1.toNat < n := fun p hp => by obtain ⟨v, q1, q2, _⟩ := hc.at_ p hp; omega
  have hnew : new.length ≤ 20000 := by
    have h9 := ht.le
    rw [hc.len, List.length_append] at h9
    omega
  have hws := wsN_short (C := C) (T := U) (K := takersN C n C.latches.length) (b := 16384) (fun v => Nat.le_trans (takersN_short C n _ v) hnl) new
  refine ⟨hU, ht, turn_next h0 h.len h.tu hc (wsN_mem h0 hO hlen hU hr hb), hlen, row3_two1 _ _ h.r3, by rw [e1]; simp only [Nat.add_sub_cancel]; omega, by rw [e1]; exact h2, by omega, ?_⟩
  have : new.length * 16384 ≤ 20000 * 16384 := Nat.mul_le_mul_right _ hnew
  omega
end

set_option maxHeartbeats 8000000 in
set_option maxRecDepth 100000 in
theorem settle_any (w0 w : World) (V : CV) (S : SpB) (C : Circ) (O L0 T0 : List Int) (H : List Bool) (us : List Value) (US : List (List Int)) (tv0 : Value) (h : SP w0 w S tv0 T0 H [] us US) (h0 : (checkR C).2 = 0) (hO : IsOrd C O) (hL : L0.length = C.latches.length) (h3 : Row3 L0) (hT : T0 = val3 C O L0 (all2 C))
    (hH : ∀ v : Nat, H.getD v false = false) (hUS : ∀ v, v < S.n → IsUsers C v (US.getD v [])) (hst : ∀ wz, w0.grownBy wz (some S.gv) → C.In wz V ∧ TabC wz) (hav : S.aV = V.a) :
    Calls Tryz.prog 18 #[V.val C.max, .pointer (some ⟨S.bs, 0, none⟩)] w fun e w' => ∃ (tv : Value) (tr : List (Int × Int)), e = .returned (.int .i64 ((settle3 C O (C.latches.length + 1) L0 0).2 : Int)) ∧ SP w0 w' S tv (val3 C O (settle3 C O (C.latches.length + 1) L0 0).1 (all2 C)) H tr us US := by
  have hrt := right_of h0
  have hm1 := hrt.m1
  have hm0 := hrt.m0
  have hnl := hrt.nl
  have hTl : T0.length = C.max.toNat + 1 := by rw [hT, val3_len]
  have hSn : S.n = C.max.toNat + 1 := by rw [← h.tl, hTl]
  have h3T : Row3 T0 := by rw [hT]; exact row3_val h3 (row3_all2 C)
  have HLT : Hid (∀ z ∈ C.latches, (0 ≤ z.1 ∧ z.1 / 2 < (S.n : Int)) ∧ (z.2.1 / 2).toNat < S.n) := Lib.hid (fun z hz => by have h1 := (hrt.l z hz).1; have h2 := (hrt.l z hz).2.1; unfold LitOk at h2; omega)
  have HTK := Lib.hid (fun (wx : World) (hx : C.In wx V) => takersOf_any wx V C hx hrt)
  have HUN := Lib.hid (fun (wx : World) (v : Value) (hx : C.In wx V) (ht : TabC wx) (hv : RowE 1 encI wx v T0) => unlike_any wx V C v T0 hx hrt ht hv h3T hTl)
  have HLO := Lib.hid (fun (wx : World) (tv : Value) (L T : List Int) (tr : List (Int × Int)) (j : Nat) (z : Tri) (hx : SP w0 wx S tv T H tr us US) (hL' : L.length = C.latches.length) (h3' : Row3 L) (hT' : T = val3 C O L (all2 C)) (htr : Trl T tr) (hj : C.latches[j]? = some z) => sLoosen_any w0 wx S tv C O L (all2 C) T H tr us US j z (z.1 / 2).toNat hx h0 hO hL' (by simp [all2]) h3' (row3_all2 C) hT' htr hj rfl hUS (fun wz hg => by
    have h9 := hst wz hg
    have h8 := h9.1.a
    rw [← hav] at h8
    exact ⟨h8, h9.2⟩))
  have HST := Lib.hid hst
  have HSZ : Hid (w0.heap.size ≤ w.heap.size) := Lib.hid h.grown.size
  have hall : ∀ wz, Below (w.alloc (.cells (V.cells C.max) 29)).heap.size (w.alloc (.cells (V.cells C.max) 29)) wz → Blk wz w.heap.size 29 (V.cells C.max) ∧ C.In wz V ∧ TabC wz ∧ SP w0 wz S tv0 T0 H [] us US ∧ RowE 1 encI wz (.slice (some ⟨S.gv, 0, none⟩) S.n S.n) T0 := fun wz hb => by
    have h1 := (h.on ((Below.refl _ _).alloc (Nat.le_refl _) (.cells (V.cells C.max) 29))).on hb
    have h2 := nums_row h1.val (by rw [h1.tl, hSn]; unfold maxLen; omega)
    rw [h1.tl] at h2
    exact ⟨(Blk.new w _ _).below hb (by simp), (hst wz h1.grown).1, (hst wz h1.grown).2, h1, h2⟩
  have HX : Hid (Below (w.alloc (.cells (V.cells C.max) 29)).heap.size (w.alloc (.cells (V.cells C.max) 29)) (w.alloc (.cells (V.cells C.max) 29))) := Lib.hid (Below.refl _ _)
  have HSD : Hid (SD C O L0 T0 [] (unl C T0 C.latches.length) (C.latches.length + 1) 0 (settle3 C O (C.latches.length + 1) L0 0)) := Lib.hid (by
    have hB := valB (O := O) (L := L0) (I := all2 C) h0 hO hL (by simp [all2])
    rw [← hT] at hB
    refine ⟨hT, Trl.nil _, fun x => ?_, hL, h3, by have := List.length_filter_le (fun x => decide (x ≠ (2 : Int))) L0; omega, rfl, by omega, by have := unl_short C T0 C.latches.length; omega⟩
    rw [unl_mem _ (Nat.le_refl _)]
    constructor
    · rintro ⟨i, z, _, q2, q3, q4, q5⟩
      have e := hB.l i z (L0.getD i 0) q3 (by have := (List.getElem?_eq_some_iff.1 q3).1; rw [List.getD_eq_getElem?_getD, List.getElem?_eq_getElem (by omega)]; rfl)
      rw [e] at q4 q5
      exact ⟨i, z, q2, q3, q4, q5⟩
    · rintro ⟨i, z, q2, q3, q4, q5⟩
      have e := hB.l i z (L0.getD i 0) q3 (by have := (List.getElem?_eq_some_iff.1 q3).1; rw [List.getD_eq_getElem?_getD, List.getElem?_eq_getElem (by omega)]; rfl)
      rw [← e] at q4 q5
      exact ⟨i, z, (List.getElem?_eq_some_iff.1 q3).1, q2, q3, q4, q5⟩)
  obtain ⟨R, hR⟩ : ∃ R, settle3 C O (C.latches.length + 1) L0 0 = R := ⟨_, rfl⟩
  rw [hR] at HSD ⊢
  have HIL := Lib.hid (fun (wx : World) (hx : w0.grownBy wx (some S.gv)) => (hst wx hx).1.l)
  obtain ⟨AL, cL, eL, _, _, _⟩ := (hst w h.grown).1.l
  obtain ⟨Vi, Vl, Vo, Vb, Vc, Vj, Vf, Va, Vs, Vt⟩ := V
  obtain ⟨bs, gv, gh, n, aV, uV⟩ := S
  simp only at eL hav hSn HIL
  subst eL hav
  obtain ⟨m, hmm⟩ : ∃ m, C.max = m := ⟨_, rfl⟩
  obtain ⟨nL, hnL⟩ : ∃ k, C.latches.length = k := ⟨_, rfl⟩
  rw [hmm, hnL] at hall HX HTK HUN
  rw [hnL] at HSD HIL HST
  rw [hmm, hnL]
  rw [hmm] at hSn
  rw [← hSn] at HTK
  have HMM := Lib.hid (And.intro hmm (And.intro hnL hSn))
  have HRT := Lib.hid hrt
  have HALL := Lib.hid hall
  have HHF := Lib.hid hH
  have H0 := Lib.hid (And.intro h0 hO)
  have hn2 : n ≤ 20000 := by omega
  have hnl2 : nL ≤ 16384 := by omega
  clear h h0 hO hL h3 hT hH hUS hst hrt hm1 hm0 hnl hTl h3T hR hall hmm hnL hSn HST
  obtain ⟨c0, c1, c2, c3, c4, c5, c6, c7, c8, c9, c10⟩ := rbox_of (HALL.out _ HX.out).1
  go_enter Tryz.func18, Tryz.ntmps18
  go_upto_region 2 with (go_at_call 34; refine (HTK.out _ (HALL.out _ HX.out).2.1).mono ?_; rintro e w1 ⟨kv, ks, rfl, hb, hj⟩; have HJ := Lib.hid hj; have HXN := Lib.hid (bt HX.out (Nat.le_refl _) hb); clear HX hb hj c0 c1 c2 c3 c4 c5 c6 c7 c8 c9 c10; have HX := HXN; clear HXN; obtain ⟨c0, c1, c2, c3, c4, c5, c6, c7, c8, c9, c10⟩ := rbox_of (HALL.out _ HX.out).1)
  have HDR : Hid (Below (w.alloc (.cells #[.int .i64 m, Vi, .slice AL nL cL, Vo, Vb, Vc, Vj, Vf, aV, Vs, Vt] 29)).heap.size (w.alloc (.cells #[.int .i64 m, Vi, .slice AL nL cL, Vo, Vb, Vc, Vj, Vf, aV, Vs, Vt] 29)) w1.drew) := Lib.hid HX.out.drew
  have HCALL := Lib.hid (HUN.out w1.drew _ (HALL.out _ HDR.out).2.1 (HALL.out _ HDR.out).2.2.1 (HALL.out _ HDR.out).2.2.2.2)
  have HDB : Hid (∀ wz, Below w1.drew.heap.size w1.drew wz → Blk wz w.heap.size 29 #[.int .i64 m, Vi, .slice AL nL cL, Vo, Vb, Vc, Vj, Vf, aV, Vs, Vt] ∧ wz.cell? ⟨bs, 2, none⟩ = some (.slice (some ⟨gv, 0, none⟩) n n)) := Lib.hid (fun wz hb => by
    have h9 := HALL.out _ (bt HDR.out (Nat.le_refl _) hb)
    exact ⟨h9.1, h9.2.2.2.1.sp_cells.2.2.1⟩)
  have HB0 : Hid (Below w1.drew.heap.size w1.drew w1.drew) := Lib.hid (Below.refl _ _)
  clear c0 c1 c2 c3 c4 c5 c6 c7 c8 c9 c10
  go_region_held3 (fun w' => (w'.cell? ⟨w.heap.size, 0, none⟩ = some (.int .i64 m) ∧ w'.cell? ⟨w.heap.size, 1, none⟩ = some Vi ∧ w'.cell? ⟨w.heap.size, 2, none⟩ = some (.slice AL nL cL) ∧ w'.cell? ⟨w.heap.size, 3, none⟩ = some Vo ∧ w'.cell? ⟨w.heap.size, 4, none⟩ = some Vb ∧ w'.cell? ⟨w.heap.size, 5, none⟩ = some Vc ∧ w'.cell? ⟨w.heap.size, 6, none⟩ = some Vj ∧ w'.cell? ⟨w.heap.size, 7, none⟩ = some Vf ∧ w'.cell? ⟨w.heap.size, 8, none⟩ = some aV ∧ w'.cell? ⟨w.heap.size, 9, none⟩ = some Vs ∧ w'.cell? ⟨w.heap.size, 10, none⟩ = some Vt) ∧ w'.cell? ⟨bs, 2, none⟩ = some (.slice (some ⟨gv, 0, none⟩) n n))
    (first | exact ⟨rbox_of (HDB.out _ HB0.out).1, (HDB.out _ HB0.out).2⟩ | exact ⟨rbox_of (HDB.out _ HB6.out).1, (HDB.out _ HB6.out).2⟩ | go_keep)
    (first | (go_at_call 35; refine HCALL.out.mono ?_; rintro e w6 ⟨v6, rfl, hb6, ho6⟩; have HB6 := Lib.hid hb6; have HO6 := Lib.hid ho6; clear hb6 ho6))
  have HST0 : Hid (ST w0 w1 w6 ⟨bs, gv, gh, n, aV, uV⟩ w.heap.size #[.int .i64 m, Vi, .slice AL nL cL, Vo, Vb, Vc, Vj, Vf, aV, Vs, Vt] w.heap.size kv ks (takersN C n nL) H us US tv0 T0 [] v6 (unl C T0 nL)) := by
    have h9 := HALL.out _ (bt HDR.out (Nat.le_refl _) HB6.out)
    have hsz := HX.out.size
    have hj1 := HJ.out.base (B' := w.heap.size) (by simp)
    exact Lib.hid ⟨h9.2.2.2.1, h9.1, (hj1.below (Below.refl _ _).drew).below HB6.out, own_le HO6.out (by first | exact Nat.le_refl _ | simp), HB6.out.size, HSZ.out, HSZ.out, by simp at hsz; omega, (HALL.out _ HX.out).2.2.2.1.users, hj1⟩
  obtain ⟨kA, kc, ke⟩ := own_slice_k HJ.out.own
  subst ke
  have HKL : Hid (ks.length = n) := Lib.hid (by rw [HJ.out.ul, takersN_len])
  rw [HKL.out] at HST0 ⊢
  obtain ⟨K, hK⟩ : ∃ K, takersN C n nL = K := ⟨_, rfl⟩
  rw [hK] at HST0
  have HKK := Lib.hid hK
  obtain ⟨i0, hi0, hz0, hz1, hz2⟩ := info_of2 infoI2
  have HI0 := Lib.hid (And.intro hi0 (And.intro hz0 (And.intro hz1 hz2)))
  clear hK HTK HUN HALL HX HDR HCALL HDB HB0 HB6 HO6 HJ HSZ hi0 hz0 hz1 hz2
  try clear HB6
  go_wp2
  go_loopg [6, 7] (nL + 1) (fun k uv iv wx => ∃ (f tt : Nat) (L T xs : List Int) (tr : List (Int × Int)) (tv : Value), k = f ∧ iv = .int .i64 tt ∧ ST w0 w1 wx ⟨bs, gv, gh, n, aV, uV⟩ w.heap.size #[.int .i64 m, Vi, .slice AL nL cL, Vo, Vb, Vc, Vj, Vf, aV, Vs, Vt] w.heap.size (.slice kA n kc) ks K H us US tv T tr uv xs ∧ SD C O L T tr xs f tt R)
  case atStart => exact ⟨nL + 1, 0, L0, T0, _, [], tv0, rfl, rfl, HST0.out, HSD.out⟩
  case round =>
    obtain ⟨f, tt, L, T, xs, tr, tv, hgk, rfl, hst1, hsd⟩ := hrel
    subst hgk
    clear HST0 HSD
    have HS1 := Lib.hid hst1
    have HD1 := Lib.hid hsd
    obtain ⟨uA, uc, ue⟩ := own_slice_k hst1.tu
    obtain ⟨kx, hkx⟩ : ∃ k, xs.length = k := ⟨_, rfl⟩
    have HKX := Lib.hid hkx
    rw [hkx] at ue
    subst ue
    obtain ⟨tA, tc, te⟩ := own_slice_k hst1.sp.trail
    obtain ⟨nt, hnt⟩ : ∃ k, tr.length = k := ⟨_, rfl⟩
    have HNT := Lib.hid hnt
    rw [hnt] at te
    subst te
    obtain ⟨d0, d1, d2, d3, d4⟩ := hst1.sp.sp_cells
    have hbl := hst1.sp.box.lt
    simp only at d0 d1 d2 d3 d4 hbl
    have htf := hsd.tf
    have hxl := hsd.xl
    have hct := hsd.ct
    rw [hkx] at hxl
    clear hst1 hsd hkx hnt
    by_cases hx : 0 < kx
    · have hxi : (0 : Int) < (kx : Int) := by omega
      have HNE : Hid (xs ≠ []) := Lib.hid (fun e => by have := HKX.out; rw [e] at this; simp at this; omega)
      have HQ0 : Hid (SQ w0 w1 wr ⟨bs, gv, gh, n, aV, uV⟩ C O L w.heap.size #[.int .i64 m, Vi, .slice AL nL cL, Vo, Vb, Vc, Vj, Vf, aV, Vs, Vt] w.heap.size (.slice kA n kc) ks K H us US (.slice uA kx uc) xs T tr 0) := Lib.hid ⟨_, T, [], by simpa using HS1.out, by rw [List.take_zero]; exact HD1.out.t, by simpa using HD1.out.trl, Ch.refl _⟩
      go_wp2
      clear d0 d1 d2 d3 d4 hbl
      go_loopg [35] kx (fun k iv wx => ∃ q : Nat, q ≤ kx ∧ iv = .int .i64 q ∧ k = kx - q ∧ SQ w0 w1 wx ⟨bs, gv, gh, n, aV, uV⟩ C O L w.heap.size #[.int .i64 m, Vi, .slice AL nL cL, Vo, Vb, Vc, Vj, Vf, aV, Vs, Vt] w.heap.size (.slice kA n kc) ks K H us US (.slice uA kx uc) xs T tr q)
      case atStart => exact ⟨0, Nat.zero_le _, rfl, rfl, HQ0.out⟩
      case round =>
        obtain ⟨q, hq, rfl, hgk, hsq⟩ := hrel
        subst hgk
        clear HQ0
        obtain ⟨tv2, T2, new, hst2, hT2, htr2, hch⟩ := hsq.ex
        have HS2 := Lib.hid hst2
        have HC2 := Lib.hid (And.intro hT2 (And.intro htr2 hch))
        clear hsq hT2 htr2 hch
        by_cases hlt : q < kx
        · obtain ⟨x, hxq⟩ : ∃ x, xs[q]? = some x := ⟨_, List.getElem?_eq_getElem (by rw [HKX.out]; exact hlt)⟩
          obtain ⟨i, z, hxi2, hz, _⟩ := (HD1.out.tu x).1 (List.mem_of_getElem? hxq)
          subst hxi2
          obtain ⟨A', c', e', _, hz2, hrun⟩ := own_rowe (enc := encI) lenI (by rw [flat_ints]; exact hst2.tu)
          injection e' with e1 e2 e3
          clear e2
          subst e1 e3
          obtain ⟨ub, uoff, e, _, hcell⟩ := hrun q _ hxq
          subst e
          have k0 := hcell 0 _ rfl
          simp only [Nat.mul_one, Nat.add_zero] at k0
          obtain ⟨A', c', e', _, _, hrun2⟩ := HIL.out wr hst2.sp.grown
          injection e' with e1 e2 e3
          clear e2
          subst e1 e3
          have hil : i < nL := by have := (List.getElem?_eq_some_iff.1 hz).1; rw [HMM.out.2.1] at this; exact this
          obtain ⟨lb, loff, e, _, hcell2⟩ := hrun2 i z hz
          subst e
          obtain ⟨⟨hz0, hz1⟩, _⟩ := HLT.out z (List.mem_of_getElem? hz)
          have hls := HLO.out wr tv2 (two1 (xs.take q) L) T2 (tr ++ new) i z hst2.sp (by rw [two1_len]; exact HD1.out.len) (row3_two1 _ _ HD1.out.r3) HC2.out.1 HC2.out.2.1 hz
          have HXQ := Lib.hid hxq
          obtain ⟨z0, z1, z2⟩ := z
          have m0 := hcell2 0 _ rfl
          have m1 := hcell2 1 _ rfl
          have m2 := hcell2 2 _ rfl
          simp only [Nat.add_zero, ← Nat.add_assoc] at m0 m1 m2
          simp only at hz0 hz1 hls
          have hzo := tdiv_nn (b := 2) hz0
          have hzw : IntKind.i64.wrap (z0 / 2) = z0 / 2 := by simp [IntKind.wrap, IntKind.bits, IntKind.signed]; omega
          rw [show (((z0 / 2).toNat : Nat) : Int) = z0 / 2 by omega] at hls
          have HLS := Lib.hid hls
          have b2 := hst2.cb.cell 2
          simp only [List.getElem?_toArray, List.getElem?_cons_zero, List.getElem?_cons_succ] at b2
          have hqi : (q : Int) < (kx : Int) := by omega
          have hqi0 : (0 : Int) ≤ (q : Int) := by omega
          have hii : (i : Int) < (nL : Int) := by omega
          have hii0 : (0 : Int) ≤ (i : Int) := by omega
          clear hst2 hxq hrun hrun2 hcell hcell2 hls hz hz2
          go_wp2_with (go_at_call 36; refine HLS.out.mono ?_; rintro e w6 ⟨rfl, hlp⟩; have HNX := Lib.hid (SQ.next (xs := xs) (L0 := L) HHF.out HXQ.out HS2.out HC2.out.2.2 hlp); clear hlp)
          go_roundg (kx - (q + 1))
          case measure => omega
          case rel => exact ⟨q + 1, by omega, by go_num, rfl, HNX.out⟩
        · have hqe : q = kx := by omega
          have htk : xs.take q = xs := List.take_of_length_le (by rw [HKX.out]; omega)
          have hU := HC2.out.1
          rw [htk] at hU
          have hTn : T.length = n := by have := HS1.out.sp.tl; simpa using this
          have hso := HD1.out.some H0.out.1 H0.out.2 HNE.out hU HC2.out.2.2
          have hsd2 := HD1.out.next H0.out.1 H0.out.2 HNE.out hU HC2.out.2.1 HC2.out.2.2 (by omega) (by have := HMM.out.2.1; omega) (n := n) (fun z hz => (HLT.out z hz).2) hTn.symm
          rw [HMM.out.2.1, HKK.out] at hsd2
          have HD2 := Lib.hid hsd2
          have hn9 := hst2
          rw [← HKX.out] at hn9
          have HN9 := Lib.hid hn9.none
          have HC3 := Lib.hid HC2.out.2.2
          obtain ⟨ln, hln⟩ : ∃ k, new.length = k := ⟨_, rfl⟩
          have HLN := Lib.hid hln
          rw [hln] at hso
          obtain ⟨tA2, tc2, te⟩ := own_slice_k hst2.sp.trail
          have hlt9 : (tr ++ new).length = nt + ln := by rw [List.length_append, HNT.out, hln]
          have HLT9 := Lib.hid hlt9
          rw [hlt9] at te
          subst te
          obtain ⟨p0, hp0⟩ : ∃ p, (tr ++ new)[nt]? = some p := ⟨_, List.getElem?_eq_getElem (by omega)⟩
          obtain ⟨A', c', e', hc1, hc2, hrun⟩ := own_rowe lenP hst2.sp.trail
          injection e' with e1 e2 e3
          clear e2
          subst e1 e3
          obtain ⟨b, off, e, _, _⟩ := hrun nt p0 hp0
          subst e
          rw [hlt9] at hc1
          have hc3 : tc2 ≤ 9223372036854775807 := by unfold maxLen at hc2; omega
          obtain ⟨A', c', e', hu1, hu2, hrunu⟩ := own_rowe (enc := encI) lenI (by rw [flat_ints]; exact hst2.tu)
          injection e' with e1 e2 e3
          clear e2
          subst e1 e3
          have hu3 : uc ≤ 9223372036854775807 := by unfold maxLen at hu2; omega
          have hu4 : (0 : Int) ≤ (uc : Int) := by omega
          obtain ⟨x0, hx0⟩ : ∃ x, xs[0]? = some x := ⟨_, List.getElem?_eq_getElem (by rw [HKX.out]; exact hx)⟩
          obtain ⟨ub, uoff, e, _, _⟩ := hrunu 0 x0 hx0
          subst e
          rw [HKX.out] at hu1
          have hu5 : ¬ uc = 0 := by omega
          have hf0 : (0 : Int) ≤ (nt : Int) := by omega
          have hf1 : (nt : Int) ≤ ((nt + ln : Nat) : Int) := by omega
          have hf2 : ((nt + ln : Nat) : Int) ≤ (tc2 : Int) := by omega
          have hf3 : ¬ tc2 = nt := by omega
          have hf4 : (nt : Int) ≤ (tc2 : Int) := by omega
          obtain ⟨d0, d1, d2, d3, d4⟩ := hst2.sp.sp_cells
          have hbl := hst2.sp.box.lt
          simp only at d0 d1 d2 d3 d4 hbl
          have hqk : ¬ (q : Int) < (kx : Int) := by omega
          clear hst2 htk hU hTn hsd2 hn9 hln hlt9 hp0 hc2 hrun hu2 hrunu hx0 hqe hlt
          generalize hlt8 : nt + ln = lt at *
          have HLT8 := Lib.hid hlt8
          have hlt7 : lt - nt = ln := by omega
          clear hlt8
          go_wp2
          clear d0 d1 d2 d3 d4 hbl
          go_loopg [6, 58] ln (fun k uv iv wx => ∃ p : Nat, p ≤ ln ∧ iv = .int .i64 p ∧ k = ln - p ∧ ST w0 w1 wx ⟨bs, gv, gh, n, aV, uV⟩ w.heap.size #[.int .i64 m, Vi, .slice AL nL cL, Vo, Vb, Vc, Vj, Vf, aV, Vs, Vt] w.heap.size (.slice kA n kc) ks K H us US (.slice (some ⟨b, off, none⟩) lt tc2) T2 (tr ++ new) uv (wsN C T2 K (new.take p)))
          case atStart => exact ⟨0, Nat.zero_le _, rfl, rfl, HN9.out⟩
          case round =>
            obtain ⟨p, hp, rfl, hgk, hst3⟩ := hrel
            subst hgk
            clear HN9
            have HS3 := Lib.hid hst3
            obtain ⟨uA3, uc3, ue3⟩ := own_slice_k hst3.tu
            obtain ⟨l3, hl3⟩ : ∃ k, (wsN C T2 K (new.take p)).length = k := ⟨_, rfl⟩
            have HL3 := Lib.hid hl3
            rw [hl3] at ue3
            subst ue3
            clear hl3
            by_cases hpl : p < ln
            · obtain ⟨pr, hpr⟩ : ∃ x, new[p]? = some x := ⟨_, List.getElem?_eq_getElem (by rw [HLN.out]; exact hpl)⟩
              have hpr2 : (tr ++ new)[nt + p]? = some pr := by rw [List.getElem?_append_right (by rw [HNT.out]; omega), HNT.out, Nat.add_sub_cancel_left]; exact hpr
              obtain ⟨A', c', e', _, _, hrun⟩ := own_rowe lenP hst3.sp.trail
              injection e' with e1 e2 e3
              clear e2
              subst e1 e3
              obtain ⟨b', off', e, _, hcell⟩ := hrun (nt + p) pr hpr2
              injection e with e
              injection e with e1 e2
              subst e1 e2
              have g0 := hcell 0 _ rfl
              have g1 := hcell 1 _ rfl
              rw [show off + ((nt + p) * 2 + 0) = off + nt * 2 + p * 2 by omega] at g0
              rw [show off + ((nt + p) * 2 + 1) = off + nt * 2 + p * 2 + 1 by omega] at g1
              obtain ⟨v, hv1, hv2, hv3, hv4, hv5⟩ := HC3.out.at_ pr (List.mem_of_getElem? hpr)
              clear hv3 hv4 hv5
              have hvn : v < n := by have := HS1.out.sp.tl; simp only at this; omega
              have HPT : Hid (new.take (p + 1) = new.take p ++ [pr]) := Lib.hid (by rw [List.take_add_one, hpr]; rfl)
              have HPV : Hid (pr.1.toNat = v) := Lib.hid (by omega)
              rw [hv1] at g0
              obtain ⟨px, py⟩ := pr
              simp only at g1 hv1
              have hbA : Below wr.heap.size wr (wr.alloc (.cells #[.int .i64 (v : Int), .int .i64 py] 69)) := (Below.refl _ _).alloc (Nat.le_refl _) _
              have HSA := Lib.hid (hst3.on hbA)
              obtain ⟨u, hu⟩ : ∃ u, ks[v]? = some u := ⟨_, List.getElem?_eq_getElem (by rw [HKL.out]; exact hvn)⟩
              obtain ⟨zs, hzs⟩ : ∃ zs, K[v]? = some zs := ⟨_, List.getElem?_eq_getElem (by rw [← HKK.out, takersN_len]; exact hvn)⟩
              have HUU := Lib.hid (And.intro hu hzs)
              have HKV : Hid (K.getD v [] = zs) := Lib.hid (by rw [List.getD_eq_getElem?_getD, hzs]; rfl)
              obtain ⟨zA, zc, hze⟩ := own_slice_k (hst3.tk.each v u zs hu hzs)
              obtain ⟨zl, hzl⟩ : ∃ k, zs.length = k := ⟨_, rfl⟩
              have HZL := Lib.hid hzl
              have hzl2 : zl ≤ 16384 := by
                have h9 := takersN_short C n nL v
                rw [HKK.out, HKV.out, hzl] at h9
                omega
              rw [hzl] at hze
              subst hze
              obtain ⟨A', c', e', _, _, hrunk⟩ := own_rowe (enc := encV) lenV (zs := ks) (by rw [flat_vals]; exact HSA.out.tk.own)
              injection e' with e1 e2 e3
              clear e2
              subst e1 e3
              obtain ⟨kb, koff, e, _, hck⟩ := hrunk v _ hu
              subst e
              have hul := hck 0 _ rfl
              simp only [Nat.mul_one, Nat.add_zero] at hul
              have hpi : (p : Int) < (ln : Int) := by omega
              have hpi0 : (0 : Int) ≤ (p : Int) := by omega
              have hpi2 : (p : Int) < ((lt - nt : Nat) : Int) := by omega
              have hvi : (v : Int) < (n : Int) := by omega
              have hvi0 : (0 : Int) ≤ (v : Int) := by omega
              have HN4 : Hid (ST w0 w1 (wr.alloc (.cells #[.int .i64 (v : Int), .int .i64 py] 69)) ⟨bs, gv, gh, n, aV, uV⟩ w.heap.size #[.int .i64 m, Vi, .slice AL nL cL, Vo, Vb, Vc, Vj, Vf, aV, Vs, Vt] w.heap.size (.slice (some ⟨kb, koff, none⟩) n kc) ks K H us US (.slice (some ⟨b, off, none⟩) lt tc2) T2 (tr ++ new) (.slice uA3 l3 uc3) (wsN C T2 K (new.take p) ++ (zs.take 0).filter (keep2 C T2))) := Lib.hid (by simpa using HSA.out)
              clear hst3 hpr hpr2 hrun hcell hv1 hv2 hbA hu hzs hzl hrunk hck
              go_wp2
              clear g0 g1 hul
              go_loopg [6, 68] zl (fun k uv iv wx => ∃ q4 : Nat, q4 ≤ zl ∧ iv = .int .i64 q4 ∧ k = zl - q4 ∧ ST w0 w1 wx ⟨bs, gv, gh, n, aV, uV⟩ w.heap.size #[.int .i64 m, Vi, .slice AL nL cL, Vo, Vb, Vc, Vj, Vf, aV, Vs, Vt] w.heap.size (.slice (some ⟨kb, koff, none⟩) n kc) ks K H us US (.slice (some ⟨b, off, none⟩) lt tc2) T2 (tr ++ new) uv (wsN C T2 K (new.take p) ++ (zs.take q4).filter (keep2 C T2)))
              case atStart => exact ⟨0, Nat.zero_le _, rfl, rfl, HN4.out⟩
              case round =>
                obtain ⟨q4, hq4, rfl, hgk, hst4⟩ := hrel
                subst hgk
                clear HN4 HSA
                have HS4 := Lib.hid hst4
                have hbig : (wsN C T2 K (new.take p)).length ≤ 400000000 := by
                  have h9 := wsN_short (C := C) (T := T2) (K := K) (b := 16384) (fun v => by rw [← HKK.out]; exact Nat.le_trans (takersN_short C n nL v) hnl2) (new.take p)
                  have h8 : (new.take p).length ≤ 20000 := by
                    have h1 := HC2.out.2.1.le
                    have h2 := hst4.sp.tl
                    simp only at h2
                    rw [List.length_append] at h1
                    have h3 := List.length_take_le p new
                    have h4 := List.length_take_le' p new
                    omega
                  have := Nat.mul_le_mul_right 16384 h8
                  omega
                have hbig2 : (wsN C T2 K (new.take p) ++ (zs.take q4).filter (keep2 C T2)).length ≤ 500000000 := by
                  rw [List.length_append]
                  have h1 := List.length_filter_le (keep2 C T2) (zs.take q4)
                  have h2 := List.length_take_le q4 zs
                  omega
                obtain ⟨uA4, uc4, ue4⟩ := own_slice_k hst4.tu
                obtain ⟨X4, hX4⟩ : ∃ X, wsN C T2 K (new.take p) ++ (zs.take q4).filter (keep2 C T2) = X := ⟨_, rfl⟩
                have HX4 := Lib.hid hX4
                rw [hX4] at ue4 hbig2 hst4 HS4
                obtain ⟨l4, hl4⟩ : ∃ k, X4.length = k := ⟨_, rfl⟩
                have HL4 := Lib.hid hl4
                rw [hl4] at ue4 hbig2
                subst ue4
                clear hX4 hl4 hbig
                by_cases hql : q4 < zl
                · obtain ⟨x, hxq⟩ : ∃ x, zs[q4]? = some x := ⟨_, List.getElem?_eq_getElem (by rw [HZL.out]; exact hql)⟩
                  have hmem := (takersN_mem (C := C) (n := n) (fun z hz => (HLT.out z hz).2) nL (by rw [HMM.out.2.1]; exact Nat.le_refl _) v hvn x).1 (by rw [HKK.out, HKV.out]; exact List.mem_of_getElem? hxq)
                  obtain ⟨i, z, hi, hxi2, hz, _⟩ := hmem
                  subst hxi2
                  obtain ⟨A', c', e', _, _, hrun⟩ := own_rowe (enc := encI) lenI (hst4.tk.each v _ zs HUU.out.1 HUU.out.2)
                  injection e' with e1 e2 e3
                  clear e2
                  subst e1 e3
                  obtain ⟨zb, zoff, e, _, hcell⟩ := hrun q4 _ hxq
                  subst e
                  have k0 := hcell 0 _ rfl
                  simp only [Nat.mul_one, Nat.add_zero] at k0
                  have HD := Lib.hid (hst4.on (Below.refl _ _).drew)
                  obtain ⟨A', c', e', _, _, hrun2⟩ := HIL.out wr.drew HD.out.sp.grown
                  injection e' with e1 e2 e3
                  clear e2
                  subst e1 e3
                  obtain ⟨lb, loff, e, _, hcell2⟩ := hrun2 i z hz
                  subst e
                  obtain ⟨⟨hz0, hz1⟩, _⟩ := HLT.out z (List.mem_of_getElem? hz)
                  have HXQ : Hid (zs.take (q4 + 1) = zs.take q4 ++ [(i : Int)]) := Lib.hid (by rw [List.take_add_one, hxq]; rfl)
                  have HK2 : Hid (keep2 C T2 (i : Int) = decide (T2.getD (z.1 / 2).toNat 0 ≠ 2)) := Lib.hid (keep2_at hz)
                  obtain ⟨z0, z1, z2⟩ := z
                  have m0 := hcell2 0 _ rfl
                  simp only [Nat.add_zero] at m0
                  simp only at hz0 hz1 HK2
                  have hzo := tdiv_nn (b := 2) hz0
                  have hzo0 : 0 ≤ z0 / 2 := by omega
                  have hzw : IntKind.i64.wrap (z0 / 2) = z0 / 2 := by simp [IntKind.wrap, IntKind.bits, IntKind.signed]; omega
                  have b2 := HD.out.cb.cell 2
                  have y2 := HD.out.sp.box.cell 2
                  have htl : (z0 / 2).toNat < T2.length := by have := HD.out.sp.tl; simp only at this; omega
                  have yv := Nums.cell HD.out.sp.val (getD_int htl)
                  simp only [List.getElem?_toArray, List.getElem?_cons_zero, List.getElem?_cons_succ] at b2 y2 yv
                  obtain ⟨tz, htz⟩ : ∃ x, T2.getD (z0 / 2).toNat 0 = x := ⟨_, rfl⟩
                  rw [htz] at yv HK2
                  have hqi : (q4 : Int) < (zl : Int) := by omega
                  have hqi0 : (0 : Int) ≤ (q4 : Int) := by omega
                  have hii : (i : Int) < (nL : Int) := by omega
                  have hii0 : (0 : Int) ≤ (i : Int) := by omega
                  clear hst4 hxq hz hrun hrun2 hcell hcell2 htl htz
                  go_upto_region 19 with (fail)
                  go_region
                  by_cases htw : tz = 2
                  · have HF : Hid ((zs.take (q4 + 1)).filter (keep2 C T2) = (zs.take q4).filter (keep2 C T2)) := Lib.hid (by rw [HXQ.out, List.filter_append]; simp [HK2.out, htw])
                    subst htw
                    go_wp2
                    go_roundg (zl - (q4 + 1))
                    case measure => omega
                    case rel => exact ⟨q4 + 1, by omega, by go_num, rfl, by rw [HF.out, HX4.out]; exact HD.out⟩
                  · have HF : Hid ((zs.take (q4 + 1)).filter (keep2 C T2) = (zs.take q4).filter (keep2 C T2) ++ [(i : Int)]) := Lib.hid (by rw [HXQ.out, List.filter_append]; simp [HK2.out, htw])
                    have htw2 : (tz != 2) = true := by simpa using htw
                    clear htw m0 b2 y2 yv
                    generalize hW5 : wr.drew = W5 at *
                    have HR : Hid (Reads (W5.alloc (.cells #[.int .i64 (i : Int)] 3)) (W5.heap.size + 1) 1 (some ⟨W5.heap.size, 0, none⟩) 1 [.int .i64 (i : Int)]) := Lib.hid (reads_one _ _ _)
                    have HDA := Lib.hid (HD.out.on ((Below.refl W5.heap.size W5).alloc (Nat.le_refl _) (.cells #[.int .i64 (i : Int)] 3)))
                    have HOA : Hid ((W5.alloc (.cells #[.int .i64 (i : Int)] 3)).ownsRow w1.heap.size 3 1 (.slice uA4 l4 uc4) l4 (X4.map (Value.int .i64))) := Lib.hid (by have h9 := HDA.out.tu; rw [HL4.out] at h9; exact h9)
                    have HSW : Hid (w1.heap.size ≤ W5.heap.size) := Lib.hid HD.out.sz
                    go_wp2_with (at_builtin; refine wpList_append_any _ rfl (.tmp 86) (.tmp 88) _ rfl w1.heap.size 3 i0 _ 1 8 Tryz.underlying22 HI0.out.1 HI0.out.2.1 HI0.out.2.2.1 HI0.out.2.2.2 rfl (by omega) (.slice uA4 l4 uc4) l4 (X4.map (Value.int .i64)) rfl HOA.out (W5.heap.size + 1) (some ⟨W5.heap.size, 0, none⟩) 1 1 [.int .i64 (i : Int)] rfl HR.out (by simp [Value.oneCell']) (by simp only [maxLen]; omega) (by omega) (by have := HSW.out; first | (simp; done) | (simp; omega)) ?_; intro v2 w2 hown2 hg2 hat2; have HN5 := Lib.hid (HDA.out.turn (ys := X4 ++ [(i : Int)]) hg2 (by rw [List.length_append, HL4.out, List.map_append]; exact hown2)); clear hown2 hg2 hat2)
                    go_roundg (zl - (q4 + 1))
                    case measure => omega
                    case rel => exact ⟨q4 + 1, by omega, by go_num, rfl, by rw [HF.out, ← List.append_assoc, HX4.out]; exact HN5.out⟩
                · have hqe4 : q4 = zl := by omega
                  have HE4 : Hid (wsN C T2 K (new.take (p + 1)) = X4) := Lib.hid (by
                    have h9 : zs.take q4 = zs := List.take_of_length_le (by rw [HZL.out]; omega)
                    rw [HPT.out, wsN_snoc, HPV.out, HKV.out, ← HX4.out, h9])
                  have hql2 : ¬ (q4 : Int) < (zl : Int) := by omega
                  clear hst4 hql
                  go_wp2
                  go_roundg (ln - (p + 1))
                  case measure => omega
                  case rel => exact ⟨p + 1, by omega, by go_num, rfl, by rw [HE4.out]; exact HS4.out⟩
            · have hpe : p = ln := by omega
              have HE3 : Hid (new.take p = new) := Lib.hid (List.take_of_length_le (by rw [HLN.out]; omega))
              rw [HE3.out] at HS3
              have hpl2 : ¬ (p : Int) < (ln : Int) := by omega
              have hpl3 : ¬ (p : Int) < ((lt - nt : Nat) : Int) := by omega
              clear hst3 hpl
              go_wp2
              go_roundg (gk - 1)
              case measure => omega
              case rel => exact ⟨gk - 1, tt + 1, two1 xs L, T2, wsN C T2 K new, tr ++ new, _, rfl, by go_num, HS3.out, HD2.out⟩
    · have hx0 : kx = 0 := by omega
      have hxs : xs = [] := List.eq_nil_of_length_eq_zero (by rw [HKX.out]; exact hx0)
      have hR := HD1.out.stop hxs
      have hTT := HD1.out.t
      have HSE : Hid (SP w0 wr ⟨bs, gv, gh, n, aV, uV⟩ (.slice tA nt tc) (val3 C O R.1 (all2 C)) H tr us US ∧ (R.2 : Int) = (tt : Int)) := Lib.hid (by rw [hR]; exact ⟨by rw [← hTT]; exact HS1.out.sp, rfl⟩)
      have hxi : ¬ (0 : Int) < (kx : Int) := by omega
      clear hR hTT hxs hx0 hx d0 d1 d2 d3 d4 hbl
      go_wp2
      go_ret
      rw [HSE.out.2]
      first
        | exact ⟨_, tr, rfl, HSE.out.1⟩
        | exact ⟨_, tr, HSE.out.1, rfl⟩
        | exact ⟨rfl, _, tr, HSE.out.1⟩
end Go.Proofs.YtbeaicmjohlboaaGreatDoor
