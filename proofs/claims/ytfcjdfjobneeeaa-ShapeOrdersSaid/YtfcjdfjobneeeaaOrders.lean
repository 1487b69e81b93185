/- The walk of ShapeOrders: for whatever circuit the statement's Go function answers true, and nothing that was there has turned. -/
import Derived.Test.YtfcjdfjobneeeaaWorks3
import Derived.Test.YtfcjdfjobneeeaaGates
import Derived.Test.YtfcjdfjobneeeaaSetP
import Derived.Laws.EntriesVeiled
import Derived.Deep.LoopGhost
import Derived.Deep.RegionWith
namespace Go.Proofs.Ytfcjdfjobneeeaa
open Go.RowKit

/-- The gates that are done, as a table. -/
def doneF (n : Nat) (xs : List Int) : List Bool := xs.foldl (fun t i => t.set i.toNat true) (List.replicate n false)
theorem doneF_snoc (n : Nat) (xs : List Int) (x : Int) : doneF n (xs ++ [x]) = (doneF n xs).set x.toNat true := by simp [doneF, List.foldl_append]
theorem done_len : ∀ (xs : List Int) (t : List Bool), (xs.foldl (fun t i => t.set i.toNat true) t).length = t.length
  | [], _ => rfl
  | x :: r, t => by rw [List.foldl_cons, done_len r]; simp
theorem done_get : ∀ (xs : List Int) (t : List Bool), (∀ x ∈ xs, InR t.length x) → ∀ k, k < t.length → (xs.foldl (fun t i => t.set i.toNat true) t)[k]? = some (t.getD k false || decide ((k : Int) ∈ xs))
  | [], t, _, k, hk => by simp [List.getD, hk]
  | x :: r, t, h, k, hk => by
    have hx := h x (by simp)
    unfold InR at hx
    rw [List.foldl_cons, done_get r (t.set x.toNat true) (fun y hy => by have := h y (by simp [hy]); simpa using this) k (by simpa using hk)]
    simp only [List.getD, List.getElem?_set, List.mem_cons]
    by_cases e : x.toNat = k
    · subst e
      have e2 : ((x.toNat : Nat) : Int) = x := by omega
      simp [show x.toNat < t.length by omega, e2]
    · have e2 : ¬ (k : Int) = x := by omega
      simp [e, e2]
theorem doneF_get {n : Nat} {xs : List Int} (h : ∀ x ∈ xs, InR n x) {k : Nat} (hk : k < n) : (doneF n xs)[k]? = some (decide ((k : Int) ∈ xs)) := by
  unfold doneF
  rw [done_get xs _ (fun x hx => by simpa using h x hx) k (by simpa using hk)]
  simp [List.getD, hk]
theorem gateOf_len (C : Circ) : (gateOf C).length = C.max.toNat + 1 := by unfold gateOf; rw [gateF_len]; simp
theorem gateOf_at {C : Circ} (hm : 0 ≤ C.max) {l : Int} (h : LitOk C l) : ∃ a, (gateOf C)[(l / 2).toNat]? = some a ∧ (gateOf C).getD (l / 2).toNat 0 = a := by
  obtain ⟨h1, h2⟩ := h
  have : (l / 2).toNat < (gateOf C).length := by rw [gateOf_len]; omega
  exact ⟨_, List.getElem?_eq_getElem this, by simp [List.getD, this]⟩
/-- What a gate uses has been done. -/
theorem used_done {C : Circ} {out : List Int} (hG : Greedy (usesC C) out) {q : Nat} {gn : Nat} (hg : out[q]? = some (gn : Int)) {z : Tri} (hz : C.ands[gn]? = some z) {a : Int}
    (ha : (gateOf C).getD (z.2.1 / 2).toNat 0 = a ∨ (gateOf C).getD (z.2.2 / 2).toNat 0 = a) (h0 : 0 ≤ a) : a < (C.ands.length : Int) ∧ (doneF C.ands.length (out.take q))[a.toNat]? = some true := by
  have hE : Edge (usesC C) (gn : Int) a := by
    refine ⟨by omega, ?_⟩
    have : (usesC C).getD ((gn : Int)).toNat (-1, -1) = useOf (gateOf C) z := by simp [usesC, List.getD, hz]
    rw [this]
    exact ha
  have hm := hG.before q _ hg a hE
  have hr : ∀ x ∈ out, InR C.ands.length x := fun x hx => by have := hG.inR x hx; rwa [usesC_len] at this
  have har := hr a (List.mem_of_mem_take hm)
  unfold InR at har
  refine ⟨har.2, ?_⟩
  rw [doneF_get (fun x hx => hr x (List.mem_of_mem_take hx)) (by omega), show ((a.toNat : Nat) : Int) = a by omega]
  simp [hm]
theorem not_done {C : Circ} {out : List Int} (hG : Greedy (usesC C) out) {q : Nat} {gn : Nat} (hg : out[q]? = some (gn : Int)) : gn < C.ands.length ∧ (doneF C.ands.length (out.take q))[gn]? = some false := by
  have hr : ∀ x ∈ out, InR C.ands.length x := fun x hx => by have := hG.inR x hx; rwa [usesC_len] at this
  have har := hr _ (List.mem_of_getElem? hg)
  unfold InR at har
  refine ⟨by omega, ?_⟩
  rw [doneF_get (fun x hx => hr x (List.mem_of_mem_take hx)) (by omega)]
  have : (gn : Int) ∉ out.take q := fun hm => by
    obtain ⟨i, hi⟩ := List.getElem?_of_mem hm
    rw [List.getElem?_take] at hi
    split at hi
    · have := nodup_get hG.nodup hi hg
      omega
    · cases hi
  simp [this]

set_option maxHeartbeats 4000000 in
set_option maxRecDepth 100000 in
theorem orders_walk (w : World) (V : CV) (C : Circ) (h : C.In w V) (ok : C.Ok) (_rm : C.Room) :
    Calls Try.prog 6 #[V.val C.max] w fun e w' => e = .returned (.bool true) ∧ Below w.heap.size w w' := by
  have HB := Lib.hid ((Below.refl w.heap.size w).alloc (Nat.le_refl _) (.cells (V.cells C.max) 29))
  have HIN : Hid (∀ wz, Below (w.alloc (.cells (V.cells C.max) 29)).heap.size (w.alloc (.cells (V.cells C.max) 29)) wz → C.In wz V) := Lib.hid (fun wz hb => (h.below HB.out).below hb)
  have HBX : Hid (∀ wz, Below (w.alloc (.cells (V.cells C.max) 29)).heap.size (w.alloc (.cells (V.cells C.max) 29)) wz → Blk wz w.heap.size 29 (V.cells C.max)) := Lib.hid (fun wz hb => (Blk.new w _ _).below hb (by simp))
  have HCK : Hid (∀ wx, C.In wx V → _) := Lib.hid (fun wx hx => Check_any wx V C hx ok)
  have HOR : Hid (∀ wx, C.In wx V → _) := Lib.hid (fun wx hx => Order_any wx V C hx ok)
  obtain ⟨a, r, hr⟩ : ∃ a r, checkR C = (a, r) := ⟨_, _, rfl⟩
  have HRR := Lib.hid hr
  obtain ⟨m, hmm⟩ : ∃ m, C.max = m := ⟨_, rfl⟩
  have HMM := Lib.hid hmm
  obtain ⟨AA, cA, eA, _, _, _⟩ := h.a
  obtain ⟨Vi, Vl, Vo, Vb, Vc, Vj, Vf, Va, Vs, Vt⟩ := V
  simp only at eA
  subst eA
  obtain ⟨nA, hnA⟩ : ∃ n, C.ands.length = n := ⟨_, rfl⟩
  rw [hr] at HCK HOR
  rw [hmm] at HCK HOR HB HBX HIN
  rw [hmm]
  rw [hnA] at HCK HOR HB HBX HIN ⊢
  have HNA := Lib.hid hnA
  simp only at HCK HOR
  clear h ok hr hmm hnA
  by_cases h0 : r = 0
  · subst h0
    have HRT := Lib.hid (right_of (C := C) (by rw [HRR.out]))
    have hna : nA ≤ 16384 := by rw [← HNA.out]; exact HRT.out.na
    have hmk := make_bools nA (by omega)
    go_enter Try.func6, Try.ntmps6
    go_wp2_with (first
      | (go_at_call 17; refine (works_any _).mono ?_; rintro e w1 ⟨rfl, hb1⟩; have HB1 := Lib.hid hb1; clear hb1; obtain ⟨c0, c1, c2, c3, c4, c5, c6, c7, c8, c9, c10⟩ := box_of (HBX.out w1 HB1.out))
      | (go_at_call 10; refine (HCK.out _ (HIN.out _ HB1.out)).mono ?_; rintro e w2 ⟨rfl, hb2⟩; have HB2 := Lib.hid (bt HB1.out (Nat.le_refl _) hb2); clear c0 c1 c2 c3 c4 c5 c6 c7 c8 c9 c10; obtain ⟨c0, c1, c2, c3, c4, c5, c6, c7, c8, c9, c10⟩ := box_of (HBX.out w2 HB2.out); clear hb2)
      | (go_at_call 12; go_loud (refine (HOR.out _ (HIN.out _ HB2.out)).mono ?_; rintro e w3 ⟨hb3, v3, out, rfl, _, hok⟩; obtain ⟨ho3, hg3, hl3⟩ := hok (by first | rfl | trivial); have HB3 := Lib.hid (bt HB2.out (Nat.le_refl _) hb3); have HO3 := Lib.hid ho3; have HG3 := Lib.hid hg3; have HL3 := Lib.hid hl3; obtain ⟨Ao, co, hvo⟩ := own_slice ho3; subst hvo; rw [HL3.out]; clear c0 c1 c2 c3 c4 c5 c6 c7 c8 c9 c10; obtain ⟨c0, c1, c2, c3, c4, c5, c6, c7, c8, c9, c10⟩ := box_of (HBX.out w3 HB3.out); clear hb3 hok ho3 hg3 hl3))
      | (go_at_call 26; go_loud (have hga := gates_any w3 _ C (HIN.out _ HB3.out) HRT.out.m0 HRT.out.m1 HRT.out.na HRT.out.fit; rw [HMM.out] at hga; refine hga.mono ?_; rintro e w4 ⟨gg, rfl, hgg, hb4, hn4⟩; have HB4 := Lib.hid hb4; have HN4 := Lib.hid hn4; clear c0 c1 c2 c3 c4 c5 c6 c7 c8 c9 c10; obtain ⟨c0, c1, c2, c3, c4, c5, c6, c7, c8, c9, c10⟩ := box_of (HBX.out w4 (bt HB3.out (Nat.le_refl _) hb4)); clear hb4 hn4 hga)))
    have HT0 : Hid (Below w4.heap.size w4 (w4.alloc (.cells (madeCells #[Value.bool false] nA) 4)) ∧ Tab (w4.alloc (.cells (madeCells #[Value.bool false] nA) 4)) w4.heap.size (doneF nA (out.take 0))) := Lib.hid ⟨(Below.refl _ _).alloc (Nat.le_refl _) _, by
      rw [made_bools]
      exact Blk.new w4 _ _⟩
    have HB34 : Hid (Below w3.heap.size w3 w4) := HB4
    have HINW : Hid (∀ wz, Below w4.heap.size w4 wz → C.In wz ⟨Vi, Vl, Vo, Vb, Vc, Vj, Vf, .slice AA nA cA, Vs, Vt⟩) := Lib.hid (fun wz hb => HIN.out wz (bt (bt HB3.out (Nat.le_refl _) HB34.out) (Nat.le_refl _) hb))
    have HBW : Hid (∀ wz, Below w4.heap.size w4 wz → Blk wz w.heap.size 29 #[.int .i64 m, Vi, Vl, Vo, Vb, Vc, Vj, Vf, .slice AA nA cA, Vs, Vt]) := Lib.hid (fun wz hb => HBX.out wz (bt (bt HB3.out (Nat.le_refl _) HB34.out) (Nat.le_refl _) hb))
    clear c0 c1 c2 c3 c4 c5 c6 c7 c8 c9 c10
    go_loopg [54] nA (fun k j wx => ∃ q : Nat, q ≤ nA ∧ k = nA - q ∧ j = .int .i64 q ∧ Below w4.heap.size w4 wx ∧ Tab wx w4.heap.size (doneF nA (out.take q)))
    case atStart => exact ⟨0, Nat.zero_le _, rfl, rfl, HT0.out.1, HT0.out.2⟩
    case round =>
      obtain ⟨q, hq, hgk, rfl, hbl, htb⟩ := hrel
      subst hgk
      have HBL := Lib.hid hbl
      have HTB := Lib.hid htb
      by_cases hlt : q < nA
      · obtain ⟨g, hg⟩ : ∃ g, out[q]? = some g := ⟨_, List.getElem?_eq_getElem (by rw [HL3.out]; exact hlt)⟩
        have hgr := HG3.out.inR g (List.mem_of_getElem? hg)
        unfold InR at hgr
        rw [usesC_len] at hgr
        obtain ⟨gn, rfl⟩ : ∃ gn : Nat, g = (gn : Int) := ⟨g.toNat, by omega⟩
        obtain ⟨hgA, hnd⟩ := not_done HG3.out hg
        obtain ⟨z, hz⟩ : ∃ z, C.ands[gn]? = some z := ⟨_, List.getElem?_eq_getElem hgA⟩
        rw [HNA.out] at hgA hnd
        -- the gate's number
        have hwo : wr.ownsRow w2.heap.size 3 1 (.slice Ao out.length co) out.length (out.map (Value.int .i64)) := own_below HO3.out (bt HB34.out (Nat.le_refl _) hbl)
        have hre : RowE 1 encI wr (.slice Ao out.length co) out := own_rowe lenI (by rw [flat_ints]; exact hwo)
        obtain ⟨A', c', eA', _, _, hrun⟩ := hre
        injection eA' with g1 g2 g3
        subst g1
        clear g2 g3
        obtain ⟨b, off, rfl, hb, hcell⟩ := hrun q _ hg
        have o0 := hcell 0 _ rfl
        simp only [Nat.mul_one, Nat.add_zero] at o0
        clear hcell hrun hwo
        -- the gate
        obtain ⟨A2, c2', eA2, _, _, hrun2⟩ := (HINW.out wr hbl).a
        injection eA2 with g1 g2 g3
        subst g1
        clear g2 g3
        obtain ⟨b2, off2, rfl, hb2, hcell2⟩ := hrun2 gn z hz
        have i1 := hcell2 1 _ rfl
        have i2 := hcell2 2 _ rfl
        simp only [← Nat.add_assoc] at i1 i2
        clear hcell2 hrun2
        obtain ⟨c0, c1, c2, c3, c4, c5, c6, c7, c8, c9, c10⟩ := box_of (HBW.out wr hbl)
        have hgt : Nums wr gg (gateOf C) := Blk.below HN4.out hbl (Blk.lt HN4.out)
        obtain ⟨_, hu1, hu2⟩ := HRT.out.a z (List.mem_of_getElem? hz)
        obtain ⟨ga, hga, hga2⟩ := gateOf_at HRT.out.m0 hu1
        obtain ⟨gb, hgb, hgb2⟩ := gateOf_at HRT.out.m0 hu2
        have n1 := hgt.cell hga
        have n2 := hgt.cell hgb
        have hd1 := used_done HG3.out hg hz (.inl hga2)
        have hd2 := used_done HG3.out hg hz (.inr hgb2)
        rw [HNA.out] at hd1 hd2
        have HD1 : Hid (0 ≤ ga → ga < (nA : Int) ∧ wr.cell? ⟨w4.heap.size, ga.toNat, none⟩ = some (.bool true)) := Lib.hid (fun h => ⟨(hd1 h).1, htb.cell (hd1 h).2⟩)
        have HD2 : Hid (0 ≤ gb → gb < (nA : Int) ∧ wr.cell? ⟨w4.heap.size, gb.toNat, none⟩ = some (.bool true)) := Lib.hid (fun h => ⟨(hd2 h).1, htb.cell (hd2 h).2⟩)
        have d0 := htb.cell hnd
        have f0 := Blk.frozen htb gn
        obtain ⟨z0, z1, z2⟩ := z
        simp only at i1 i2 hu1 hu2 hga hgb n1 n2 hga2 hgb2
        have q1 := tdiv_nn (b := 2) hu1.1
        have q2 := tdiv_nn (b := 2) hu2.1
        have hm1 := HRT.out.m1
        have hzz1 : 0 ≤ z1 / 2 ∧ z1 / 2 < (m : Int) + 1 ∧ z1 ≤ 40000 := by have := hu1.1; have := hu1.2; rw [HMM.out] at *; omega
        have hzz2 : 0 ≤ z2 / 2 ∧ z2 / 2 < (m : Int) + 1 ∧ z2 ≤ 40000 := by have := hu2.1; have := hu2.2; rw [HMM.out] at *; omega
        obtain ⟨hz1a, hz1b, hz1c⟩ := hzz1
        obtain ⟨hz2a, hz2b, hz2c⟩ := hzz2
        have hm0 : 0 ≤ m := by rw [← HMM.out]; exact HRT.out.m0
        have hz1d : z1 / 2 < ((m.toNat + 1 : Nat) : Int) := by omega
        have hz2d : z2 / 2 < ((m.toNat + 1 : Nat) : Int) := by omega
        have hgI : (gn : Int) < (nA : Int) := by omega
        have hgI0 : (0 : Int) ≤ (gn : Int) := by omega
        have HG := Lib.hid hg
        clear hbl htb hg hz hgr hgA hnd hgt hga hgb hga2 hgb2 hd1 hd2 hu1 hu2 hm1
        go_wp2
        go_quiet (fail)
        go_wp2
        go_loopg [85] 2 (fun k j wx => ∃ t : Nat, t ≤ 2 ∧ k = 2 - t ∧ j = .int .i64 t ∧ wx = wr.drewN nq)
        case atStart => exact ⟨0, by omega, rfl, rfl, rfl⟩
        case round =>
          obtain ⟨t, ht, hgk, rfl, rfl⟩ := hrel
          subst hgk
          have h3 : t = 0 ∨ t = 1 ∨ t = 2 := by omega
          rcases h3 with rfl | rfl | rfl
          · by_cases hpos : 0 ≤ ga
            · obtain ⟨hlt2, hdc⟩ := HD1.out hpos
              go_wp2
              go_roundg (2 - (0 + 1))
              case measure => omega
              case rel => exact ⟨1, by omega, rfl, by go_num, rfl⟩
            · go_wp2
              go_roundg (2 - (0 + 1))
              case measure => omega
              case rel => exact ⟨1, by omega, rfl, by go_num, rfl⟩
          · by_cases hpos : 0 ≤ gb
            · obtain ⟨hlt2, hdc⟩ := HD2.out hpos
              go_wp2
              go_roundg (2 - (1 + 1))
              case measure => omega
              case rel => exact ⟨2, by omega, rfl, by go_num, rfl⟩
            · go_wp2
              go_roundg (2 - (1 + 1))
              case measure => omega
              case rel => exact ⟨2, by omega, rfl, by go_num, rfl⟩
          · go_wp2
            go_roundg (nA - (q + 1))
            case measure => omega
            case rel =>
              refine ⟨q + 1, by omega, rfl, by go_num, ?_, ?_⟩
              · exact below_set (below_drewN HBL.out nq) (Nat.le_refl _) _ _
              · have hs := Tab.set_ (show Tab (wr.drewN nq) w4.heap.size (doneF nA (out.take q)) from HTB.out) gn true
                have e : out.take (q + 1) = out.take q ++ [(gn : Int)] := by rw [List.take_add_one, HG.out]; rfl
                rw [e, doneF_snoc]
                exact hs
      · have hqe : nA = q := by omega
        subst hqe
        clear hbl htb
        go_wp2
        go_ret
        exact ⟨rfl, bt (HB.out.trans (HB3.out.mono HB.out.size)) (Nat.le_refl _) (bt HB34.out (Nat.le_refl _) HBL.out)⟩
  · have hq : (r != 0) = true := by simpa using h0
    have H0 := Lib.hid h0
    clear h0
    go_enter Try.func6, Try.ntmps6
    go_wp2_with (first
      | (go_at_call 17; refine (works_any _).mono ?_; rintro e w1 ⟨rfl, hb1⟩; have HB1 := Lib.hid hb1; clear hb1; obtain ⟨c0, c1, c2, c3, c4, c5, c6, c7, c8, c9, c10⟩ := box_of (HBX.out w1 HB1.out))
      | (go_at_call 10; refine (HCK.out _ (HIN.out _ HB1.out)).mono ?_; rintro e w2 ⟨rfl, hb2⟩; have HB2 := Lib.hid (bt HB1.out (Nat.le_refl _) hb2); clear c0 c1 c2 c3 c4 c5 c6 c7 c8 c9 c10; obtain ⟨c0, c1, c2, c3, c4, c5, c6, c7, c8, c9, c10⟩ := box_of (HBX.out w2 HB2.out); clear hb2)
      | (go_at_call 12; refine (HOR.out _ (HIN.out _ HB2.out)).mono ?_; rintro e w3 ⟨hb3, v3, out, rfl, hno, _⟩; have hv3 := hno H0.out; subst hv3; have HB3 := Lib.hid (bt HB2.out (Nat.le_refl _) hb3); clear c0 c1 c2 c3 c4 c5 c6 c7 c8 c9 c10 hb3 hno))
    go_ret
    exact ⟨rfl, HB.out.trans (HB3.out.mono HB.out.size)⟩
end Go.Proofs.Ytfcjdfjobneeeaa
