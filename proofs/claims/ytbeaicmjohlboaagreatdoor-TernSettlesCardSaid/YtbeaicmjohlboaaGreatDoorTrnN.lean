/- Tern: the contract of the call Settle. -/
import Derived.Test.YtbeaicmjohlboaaGreatDoorTrnH
import Derived.Test.YtbeaicmjohlboaaGreatDoorCheck3
import Derived.Laws.CopyOwn
import Derived.Test.YtbeaicmjohlboaaGreatDoorMul
import Derived.Test.YtbeaicmjohlboaaGreatDoorTrnF
import Derived.Test.YtbeaicmjohlboaaGreatDoorTrnK
namespace Go.Proofs.YtbeaicmjohlboaaGreatDoor
open Go.RowKit

theorem reset3_len (C : Circ) : (reset3 C).length = C.latches.length := by simp [reset3]
theorem reset3_at {C : Circ} {k : Nat} {z : Tri} (h : C.latches[k]? = some z) : (reset3 C)[k]? = some (if z.2.2 = z.1 then 2 else z.2.2) := by simp [reset3, List.getElem?_map, h]

set_option maxHeartbeats 8000000 in
set_option maxRecDepth 100000 in
theorem tResets_any (w : World) (V : CV) (C : Circ) (h : C.In w V) (ok : C.Ok) :
    Calls Tryz.prog 7 #[V.val C.max] w fun e w' => Below w.heap.size w w' ∧ ∃ v, e = .returned (.tuple #[v, .int .i64 (checkR C).2]) ∧ ((checkR C).2 ≠ 0 → v = .slice none 0 0) ∧
      ((checkR C).2 = 0 → ∃ g, v = .slice (some ⟨g, 0, none⟩) C.latches.length C.latches.length ∧ w.heap.size ≤ g ∧ Nums w' g (reset3 C)) := by
  have HCH := Lib.hid (fun (wx : World) (hx : C.In wx V) => Check_any wx V C hx ok)
  have hall : ∀ wz, Below (w.alloc (.cells (V.cells C.max) 29)).heap.size (w.alloc (.cells (V.cells C.max) 29)) wz → Blk wz w.heap.size 29 (V.cells C.max) ∧ C.In wz V ∧ Below w.heap.size w wz := fun wz hb => by
    have h1 : Below w.heap.size w wz := ((Below.refl w.heap.size w).alloc (Nat.le_refl _) _).trans (hb.mono (by simp))
    exact ⟨(Blk.new w _ _).below hb (by simp), h.below h1, h1⟩
  have HX : Hid (Below (w.alloc (.cells (V.cells C.max) 29)).heap.size (w.alloc (.cells (V.cells C.max) 29)) (w.alloc (.cells (V.cells C.max) 29))) := Lib.hid (Below.refl _ _)
  obtain ⟨AL, cL, eL, _, _, rL⟩ := h.l
  have HRL := Lib.hid rL
  obtain ⟨Vi, Vl, Vo, Vb, Vc, Vj, Vf, Va, Vs, Vt⟩ := V
  simp only at eL
  subst eL
  obtain ⟨m, hmm⟩ : ∃ m, C.max = m := ⟨_, rfl⟩
  obtain ⟨n, hn⟩ : ∃ n, C.latches.length = n := ⟨_, rfl⟩
  rw [hmm, hn] at hall HX HCH
  rw [hmm, hn]
  have HALL := Lib.hid hall
  have HMM := Lib.hid hmm
  have HN := Lib.hid hn
  clear hall hmm hn h ok rL
  obtain ⟨c0, c1, c2, c3, c4, c5, c6, c7, c8, c9, c10⟩ := rbox_of (HALL.out _ HX.out).1
  by_cases h0 : (checkR C).2 = 0
  · have hrt := right_of h0
    rw [h0] at HCH
    rw [h0]
    have hnl : n ≤ 16384 := by have := hrt.nl; rw [HN.out] at this; exact this
    have hmk := make_ints n (by omega)
    have HNX : Hid ((reset3 C).length = n) := Lib.hid (by rw [reset3_len]; exact HN.out)
    have HNA := Lib.hid (fun (k : Nat) (z : Tri) (hz : C.latches[k]? = some z) => reset3_at hz)
    clear h0 hrt
    generalize (checkR C).1 = fx at *
    generalize reset3 C = N at *
    go_enter Tryz.func7, Tryz.ntmps7
    go_upto_region 4 with (go_at_call 23; refine (HCH.out _ (HALL.out _ HX.out).2.1).mono ?_; rintro e w1 ⟨rfl, hb⟩; have HXN := Lib.hid (bt HX.out (Nat.le_refl _) hb); clear HX hb c0 c1 c2 c3 c4 c5 c6 c7 c8 c9 c10; have HX := HXN; clear HXN; obtain ⟨c0, c1, c2, c3, c4, c5, c6, c7, c8, c9, c10⟩ := rbox_of (HALL.out _ HX.out).1)
    have HS0 : Hid (VT w1 (w1.alloc (.cells (madeCells #[Value.int .i64 0] n) 3)) w.heap.size w1.heap.size #[.int .i64 m, Vi, .slice AL n cL, Vo, Vb, Vc, Vj, Vf, Va, Vs, Vt] (List.replicate n 0)) := by
      refine Lib.hid ⟨(Below.refl _ _).alloc (Nat.le_refl _) _, (HALL.out _ HX.out).1.alloc _, ?_⟩
      unfold Nums
      rw [← made_ints]
      exact Blk.new w1 3 _
    have HBX : Hid (w.heap.size < w1.heap.size) := Lib.hid (by have := (HALL.out _ HX.out).1.lt; exact this)
    have x2 := HS0.out.box.cell 2
    simp only [List.getElem?_toArray, List.getElem?_cons_zero, List.getElem?_cons_succ] at x2
    go_wp2
    go_loopg [24] n (fun k j wx => ∃ q : Nat, q ≤ n ∧ k = n - q ∧ j = .int .i64 q ∧ VT w1 wx w.heap.size w1.heap.size #[.int .i64 m, Vi, .slice AL n cL, Vo, Vb, Vc, Vj, Vf, Va, Vs, Vt] (N.take q ++ List.replicate (n - q) 0))
    case atStart => exact ⟨0, Nat.zero_le _, rfl, rfl, HS0.out⟩
    case round =>
      obtain ⟨q, hq, hgk, rfl, hst⟩ := hrel
      subst hgk
      have HST := Lib.hid hst
      clear hst
      by_cases hlt : q < n
      · obtain ⟨z, hz⟩ : ∃ z, C.latches[q]? = some z := ⟨_, List.getElem?_eq_getElem (by rw [HN.out]; exact hlt)⟩
        obtain ⟨b, off, e, hb, hcell⟩ := HRL.out q z hz
        subst e
        have HXZ := Lib.hid (HNA.out q z hz)
        obtain ⟨z0, z1, z2⟩ := z
        have hb9 : Below w.heap.size w wr := bt (HALL.out _ HX.out).2.2 (Nat.le_refl _) HST.out.below
        have h0 := (hb9.cell (p := ⟨b, off + (q * 3 + 0), none⟩) hb).trans (hcell 0 _ rfl)
        have h1 := (hb9.cell (p := ⟨b, off + (q * 3 + 1), none⟩) hb).trans (hcell 1 _ rfl)
        have h2 := (hb9.cell (p := ⟨b, off + (q * 3 + 2), none⟩) hb).trans (hcell 2 _ rfl)
        simp only [Nat.add_zero, ← Nat.add_assoc] at h0 h1 h2
        have HSA := Lib.hid (HST.out.alloc (.cells #[.int .i64 z0, .int .i64 z1, .int .i64 z2] 43))
        have htl : q < (N.take q ++ List.replicate (n - q) 0).length := by rw [fill3_len HNX.out hq]; exact hlt
        have hold := Nums.cell HSA.out.tab (getD_int htl)
        have hfr := Blk.frozen HSA.out.tab q
        have hgb := Blk.lt HSA.out.tab
        simp only at HXZ
        have HBK := Lib.hid (Blk.new wr 43 #[.int .i64 z0, .int .i64 z1, .int .i64 z2])
        have hne : w1.heap.size ≠ wr.heap.size := by
          have h9 := Blk.lt HST.out.tab
          omega
        have f2 := (HBK.out.far (p := ⟨w1.heap.size, q, none⟩) (by simp only; omega) (.int .i64 z2)).cell 2
        have f0 := (HBK.out.far (p := ⟨w1.heap.size, q, none⟩) (by simp only; omega) (.int .i64 z2)).cell 0
        simp only [List.getElem?_toArray, List.getElem?_cons_zero, List.getElem?_cons_succ] at f2 f0
        have HV := Lib.hid (HSA.out.set_ (by omega) (by have := HBX.out; omega) q z2)
        clear hcell hz htl hb9
        by_cases he : z2 = z0
        · have he2 : (z2 == z0) = true := by simpa using he
          have HXQ : Hid (N[q]? = some 2) := Lib.hid (by rw [HXZ.out, if_pos he])
          have htl2 : q < ((N.take q ++ List.replicate (n - q) 0).set q z2).length := by rw [List.length_set, fill3_len HNX.out hq]; exact hlt
          have hold2 := Nums.cell HV.out.tab (getD_int htl2)
          have hfr2 := Blk.frozen HV.out.tab q
          have hgb2 := Blk.lt HV.out.tab
          clear he htl2
          go_wp2
          go_roundg (n - (q + 1))
          case measure => omega
          case rel =>
            refine ⟨q + 1, by omega, rfl, by go_num, ?_⟩
            have h9 := HV.out.set_ (by omega) (by have := HBX.out; omega) q 2
            rw [List.set_set, fill3_set HNX.out HXQ.out] at h9
            exact h9
        · have he2 : (z2 == z0) = false := by simpa using he
          have HXQ : Hid (N[q]? = some z2) := Lib.hid (by rw [HXZ.out, if_neg he])
          clear he
          go_wp2
          go_roundg (n - (q + 1))
          case measure => omega
          case rel =>
            refine ⟨q + 1, by omega, rfl, by go_num, ?_⟩
            rw [← fill3_set HNX.out HXQ.out]
            exact HV.out
      · have hqe : n = q := by omega
        subst hqe
        have hend := HST.out
        rw [fill3_end HNX.out] at hend
        have HE := Lib.hid hend
        clear hend hlt hq
        go_wp2
        go_ret2
        exact ⟨bt (HALL.out _ HX.out).2.2 (Nat.le_refl _) HE.out.below, _, rfl, fun h => absurd rfl h, fun _ => ⟨w1.heap.size, rfl, (HALL.out _ HX.out).2.2.size, HE.out.tab⟩⟩
  · obtain ⟨r, hr⟩ : ∃ r, (checkR C).2 = r := ⟨_, rfl⟩
    rw [hr] at HCH h0
    rw [hr]
    have hq : (r != 0) = true := by simpa using h0
    have H0 := Lib.hid h0
    generalize (checkR C).1 = fx at *
    clear h0 hr
    go_enter Tryz.func7, Tryz.ntmps7
    go_wp2_with (go_at_call 23; refine (HCH.out _ (HALL.out _ HX.out).2.1).mono ?_; rintro e w1 ⟨rfl, hb⟩; have HXN := Lib.hid (bt HX.out (Nat.le_refl _) hb); clear HX hb c0 c1 c2 c3 c4 c5 c6 c7 c8 c9 c10; have HX := HXN; clear HXN; obtain ⟨c0, c1, c2, c3, c4, c5, c6, c7, c8, c9, c10⟩ := rbox_of (HALL.out _ HX.out).1)
    go_ret2
    exact ⟨(HALL.out _ HX.out).2.2, _, rfl, fun _ => rfl, fun h => absurd h H0.out⟩
end Go.Proofs.YtbeaicmjohlboaaGreatDoor

namespace Go.Proofs.YtbeaicmjohlboaaGreatDoor
open Go.RowKit

def repF (x : Int) (k n : Nat) : List Int := List.replicate n x ++ List.replicate (k - n) 0
theorem repF_len (x : Int) {k n : Nat} (h : n ≤ k) : (repF x k n).length = k := by simp [repF]; omega
theorem repF_splice (x : Int) {k n c : Nat} (h : n + c ≤ k) : splice ((repF x k n).map (Value.int .i64)) n (List.replicate c (.int .i64 x)) = (repF x k (n + c)).map (Value.int .i64) := by
  unfold splice repF
  simp only [List.map_append, List.map_replicate, List.length_replicate]
  rw [List.take_left' (by simp), List.drop_append, List.drop_of_length_le (by simp)]
  simp only [List.length_replicate, List.nil_append, List.drop_replicate]
  rw [← List.append_assoc, List.replicate_append_replicate, show k - n - (n + c - n) = k - (n + c) by omega]
theorem repF_cell {w : World} {g : Nat} {x : Int} {k n j : Nat} (h : Nums w g (repF x k n)) (hj : j < n) : w.cell? ⟨g, j, none⟩ = some (.int .i64 x) := by
  have h1 := Blk.cell h j
  rw [List.getElem?_toArray] at h1
  rw [h1]
  unfold repF
  rw [List.map_append, List.getElem?_append_left (by simpa using hj)]
  simp [hj]

set_option maxHeartbeats 8000000 in
set_option maxRecDepth 100000 in
theorem repeat_any (w : World) (sa so : Nat) (x : Int) (k : Nat) (hk : k ≤ 20000) (hx : w.cell? ⟨sa, so, none⟩ = some (.int .i64 x)) :
    Calls Tryz.prog 16 #[.slice (some ⟨sa, so, none⟩) 1 1, .int .i64 k] w fun e w' => ∃ g, e = .returned (.slice (some ⟨g, 0, none⟩) k k) ∧ w.heap.size ≤ g ∧ Below w.heap.size w w' ∧ Nums w' g (List.replicate k x) := by
  have hmk := make_ints k (by omega)
  have HMUL : Hid (∀ wx, Calls Tryz.prog 33 #[.int .u64 1, .int .u64 k] wx fun e w' => e = .returned (.tuple #[.int .u64 0, .int .u64 k]) ∧ w' = wx) := Lib.hid (fun wx => by
    have h := Tryz.bits_Mul 1 k (by omega) (by omega) wx
    rw [show 1 * k / 18446744073709551616 = 0 by omega, show 1 * k % 18446744073709551616 = k by omega] at h
    exact h)
  have hk0 : (0 : Int) ≤ (k : Int) := by omega
  have hk1 : ¬ (k : Int) < 0 := by omega
  have hk2 : ¬ (9223372036854775807 : Int) < (k : Int) := by omega
  have hw1 : IntKind.u64.wrap (k : Int) = (k : Int) := by simp [IntKind.wrap, IntKind.bits, IntKind.signed]; omega
  have hw2 : IntKind.i64.wrap (k : Int) = (k : Int) := by simp [IntKind.wrap, IntKind.bits, IntKind.signed]; omega
  have hN1 : Nums (w.alloc (.cells (madeCells #[Value.int .i64 0] k) 3)) w.heap.size (repF x k 0) := by
    unfold repF Nums
    rw [List.replicate_zero, List.nil_append, Nat.sub_zero, ← made_ints]
    exact Blk.new w 3 _
  have HN1 := Lib.hid hN1
  have HB1 : Hid (Below w.heap.size w (w.alloc (.cells (madeCells #[Value.int .i64 0] k) 3))) := Lib.hid ((Below.refl _ _).alloc (Nat.le_refl _) _)
  have HX1 : Hid ((w.alloc (.cells (madeCells #[Value.int .i64 0] k) 3)).cell? ⟨sa, so, none⟩ = some (.int .i64 x)) := Lib.hid (by
    have hlt : sa < w.heap.size := by
      rcases Nat.lt_or_ge sa w.heap.size with h | h
      · exact h
      · simp [World.cell?, Array.getElem?_eq_none h] at hx
    exact (HB1.out.cell (p := ⟨sa, so, none⟩) hlt).trans hx)
  clear hx hN1
  go_enter Tryz.func16, Tryz.ntmps16
  go_upto_region 7 with (go_at_call 33; refine (HMUL.out _).mono ?_; rintro e w5 ⟨rfl, rfl⟩)
  obtain ⟨n0, hn0⟩ : ∃ n, min 1 k = n := ⟨_, rfl⟩
  have HN0 := Lib.hid hn0
  have hmin : (0 < k → 1 ≤ n0) ∧ n0 ≤ k ∧ n0 ≤ 1 := by omega
  clear hn0
  have HCS : Hid (∀ (W : World), W.cell? ⟨sa, so, none⟩ = some (.int .i64 x) → ∀ (j : Nat) (v : Value), (List.replicate n0 (Value.int .i64 x))[j]? = some v → W.cell? (Addr.add ⟨sa, so, none⟩ j) = some v) := Lib.hid (fun W hW j v hj => by
    rw [List.getElem?_replicate] at hj
    split at hj
    · rename_i h9
      injection hj with hj
      have : j = 0 := by omega
      subst this hj
      rw [add_none]
      exact hW
    · cases hj)
  go_wp2_with ((with_reducible show wpList _ _ _ _ _ _); refine wpList_copy_splice rfl (.tmp 31) (.tmp 32) 22 22 rfl 3 Tryz.underlying22 (by kernel_rfl) (some ⟨w5.heap.size, 0, none⟩) (some ⟨sa, so, none⟩) k k 1 1 rfl rfl w5.heap.size 0 ((repF x k 0).map (Value.int .i64)) 3 HN1.out (List.replicate n0 (.int .i64 x)) (by rw [List.length_replicate]; exact HN0.out.symm) (fun _ => ⟨rfl, _, rfl, HCS.out _ HX1.out⟩) (by rw [List.length_map, repF_len x (Nat.zero_le _), List.length_replicate]; omega) (fun v hv => by rw [List.mem_replicate] at hv; rw [hv.2]; rfl) w5.heap.size w5 HB1.out (Nat.le_refl _) ?_; intro w2 hn2 hb2; have HN2 := hn2; have HB2 := Lib.hid hb2; clear hn2 hb2)
  have HR0 : Hid (Nums w2 w5.heap.size (repF x k n0)) := Lib.hid (by
    have h9 := HN2.out
    rw [repF_splice x (by omega), Nat.zero_add] at h9
    exact h9)
  clear HN2 HCS HX1 HN1
  go_loopg [8] (k - n0) (fun j iv wx => ∃ n : Nat, n ≤ k ∧ (0 < k → 1 ≤ n) ∧ j = k - n ∧ iv = .int .i64 n ∧ Below w5.heap.size w5 wx ∧ Nums wx w5.heap.size (repF x k n))
  case atStart => exact ⟨n0, hmin.2.1, hmin.1, rfl, rfl, HB2.out, HR0.out⟩
  case round =>
    obtain ⟨n, hnk, hn1, hgk, rfl, hbl, hnu⟩ := hrel
    subst hgk
    clear HR0 HB2 hmin
    have HBL := Lib.hid hbl
    have HNU := Lib.hid hnu
    clear hbl hnu
    by_cases hlt : n < k
    · have hni : (n : Int) < (k : Int) := by omega
      have hn2 := hn1 (by omega)
      obtain ⟨c, hc⟩ : ∃ c, min n (k - n) = c := ⟨_, rfl⟩
      have hc1 : 1 ≤ c ∧ n + c ≤ k ∧ c ≤ n := by omega
      have HC := Lib.hid hc
      have hf0 : (0 : Int) ≤ (n : Int) := by omega
      have hf1 : (n : Int) ≤ (k : Int) := by omega
      have hf3 : ¬ k = n := by omega
      have hk9 : k ≤ 9223372036854775807 := by omega
      have HCS : Hid (∀ (j : Nat) (v : Value), (List.replicate c (Value.int .i64 x))[j]? = some v → wr.drew.cell? (Addr.add ⟨w5.heap.size, 0, none⟩ j) = some v) := Lib.hid (fun j v hj => by
        rw [List.getElem?_replicate] at hj
        split at hj
        · rename_i h9
          injection hj with hj
          subst hj
          rw [add_none, Nat.zero_add]
          exact repF_cell (Blk.drew HNU.out) (by omega)
        · cases hj)
      have HND := Lib.hid (Blk.drew HNU.out)
      have hnc : IntKind.i64.wrap ((n : Int) + (c : Int)) = (n : Int) + (c : Int) := by simp [IntKind.wrap, IntKind.bits, IntKind.signed]; omega
      have HBD := Lib.hid HBL.out.drew
      clear hc
      go_upto_region 9 with (fail)
      refine wp_region_T (by kernel_rfl) (fun _ => True) 10 ?_
      have hHeld : True := trivial
      refine wpAnyT_take (i := 0) (oi := { dst := some 38, op := Op.move (Operand.tmp 8), type := 3, pos := "slices.go:528", after := #[], guard := none }) (v := ?w0) rfl (by kernel_rfl) (fun _ _ _ h => h) (by rfl) hHeld ?k0 ?_
      case k0 => (intro w' hSw; (try dsimp only at hSw); go_simp; try with_reducible rfl)
      (try simp only [Act.put, List.setIfInBounds_toArray, List.set_cons_zero, List.set_cons_succ])
      refine wpAnyT_take (i := 1) (oi := { dst := some 39, op := Op.move (Operand.tmp 7), type := 22, pos := "slices.go:528", after := #[], guard := none }) (v := ?w1) rfl (by kernel_rfl) (fun _ _ _ h => h) (by rfl) hHeld ?k1 ?_
      case k1 => (intro w' hSw; (try dsimp only at hSw); go_simp; try with_reducible rfl)
      (try simp only [Act.put, List.setIfInBounds_toArray, List.set_cons_zero, List.set_cons_succ])
      refine wpAnyT_take (i := 2) (oi := { dst := some 40, op := Op.move (Operand.tmp 8), type := 3, pos := "slices.go:528", after := #[], guard := none }) (v := ?w2) rfl (by kernel_rfl) (fun _ _ _ h => h) (by rfl) hHeld ?k2 ?_
      case k2 => (intro w' hSw; (try dsimp only at hSw); go_simp; try with_reducible rfl)
      (try simp only [Act.put, List.setIfInBounds_toArray, List.set_cons_zero, List.set_cons_succ])
      refine wpAnyT_take (i := 3) (oi := { dst := some 41, op := Op.slice 22 (Operand.tmp 39) (some (Operand.tmp 40)) none none, type := 22, pos := "slices.go:528", after := #[{ on := 1, ground := Ground.data }, { on := 2, ground := Ground.data }], guard := none }) (v := ?w3) rfl (by kernel_rfl) (fun _ _ _ h => h) (by rfl) hHeld ?k3 ?_
      case k3 => (intro w' hSw; (try dsimp only at hSw); go_simp; try with_reducible rfl)
      (try simp only [Act.put, List.setIfInBounds_toArray, List.set_cons_zero, List.set_cons_succ])
      refine wpAnyT_take (i := 4) (oi := { dst := some 42, op := Op.move (Operand.tmp 7), type := 22, pos := "slices.go:528", after := #[], guard := none }) (v := ?w4) rfl (by kernel_rfl) (fun _ _ _ h => h) (by rfl) hHeld ?k4 ?_
      case k4 => (intro w' hSw; (try dsimp only at hSw); go_simp; try with_reducible rfl)
      (try simp only [Act.put, List.setIfInBounds_toArray, List.set_cons_zero, List.set_cons_succ])
      refine wpAnyT_take (i := 5) (oi := { dst := some 43, op := Op.move (Operand.tmp 8), type := 3, pos := "slices.go:528", after := #[], guard := none }) (v := ?w5) rfl (by kernel_rfl) (fun _ _ _ h => h) (by rfl) hHeld ?k5 ?_
      case k5 => (intro w' hSw; (try dsimp only at hSw); go_simp; try with_reducible rfl)
      (try simp only [Act.put, List.setIfInBounds_toArray, List.set_cons_zero, List.set_cons_succ])
      refine wpAnyT_take (i := 6) (oi := { dst := some 44, op := Op.slice 22 (Operand.tmp 42) none (some (Operand.tmp 43)) none, type := 22, pos := "slices.go:528", after := #[{ on := 4, ground := Ground.data }, { on := 5, ground := Ground.data }], guard := none }) (v := ?w6) rfl (by kernel_rfl) (fun _ _ _ h => h) (by rfl) hHeld ?k6 ?_
      case k6 => (intro w' hSw; (try dsimp only at hSw); go_simp; try with_reducible rfl)
      (try simp only [Act.put, List.setIfInBounds_toArray, List.set_cons_zero, List.set_cons_succ])
      refine wpAnyT_one (i := 7) (o := { dst := some 45, op := Op.call { callee := Callee.builtin Builtin.copy, args := #[Operand.tmp 41, Operand.tmp 44], argTypes := #[22, 22] }, type := 3, pos := "slices.go:528", after := #[{ on := 3, ground := Ground.data }, { on := 6, ground := Ground.data }], guard := none }) rfl (by kernel_rfl) (fun K hK => ?_)
      refine step_copy_splice rfl (.tmp 41) (.tmp 44) 22 22 rfl 3 Tryz.underlying22 (by kernel_rfl) (some ⟨w5.heap.size, n, none⟩) (some ⟨w5.heap.size, 0, none⟩) (k - n) (k - n) n k (by first | rfl | (simp [Act.eval])) (by first | rfl | (simp [Act.eval])) w5.heap.size n ((repF x k n).map (Value.int .i64)) 3 HND.out (List.replicate c (.int .i64 x)) (by rw [List.length_replicate]; exact HC.out.symm) (fun _ => ⟨rfl, _, rfl, HCS.out⟩) (by rw [List.length_map, repF_len x hnk, List.length_replicate]; omega) (fun v hv => by rw [List.mem_replicate] at hv; rw [hv.2]; rfl) w5.heap.size w5 HBD.out (Nat.le_refl _) ?_
      intro w6 hn6 hb6
      have HB6 := Lib.hid hb6
      have HN6 : Hid (Nums w6 w5.heap.size (repF x k (n + c))) := Lib.hid (by
        have h9 := hn6.out
        rw [repF_splice x hc1.2.1] at h9
        exact h9)
      clear hn6 hb6
      rw [List.length_replicate]
      refine hK.out _ _ (fun _ => trivial) ?_
      clear hK K
      (try simp only [Act.put, List.setIfInBounds_toArray, List.set_cons_zero, List.set_cons_succ])
      refine wpAnyT_one (i := 8) (o := { dst := some 46, op := Op.binOp BinOp.add 3 (Operand.tmp 38) (Operand.tmp 45) 3, type := 3, pos := "slices.go:528", after := #[{ on := 0, ground := Ground.data }, { on := 7, ground := Ground.data }], guard := none }) rfl (by kernel_rfl) (fun K hK => ?_)
      go_simp
      refine hK.out _ _ (fun _ => trivial) ?_
      clear hK K
      (try simp only [Act.put, List.setIfInBounds_toArray, List.set_cons_zero, List.set_cons_succ])
      refine wpAnyT_one (i := 9) (o := { dst := some 8, op := Op.assign (Operand.tmp 46), type := 3, pos := "slices.go:528", after := #[{ on := 8, ground := Ground.data }, { on := 7, ground := Ground.chain }, { on := 0, ground := Ground.phase }, { on := 1, ground := Ground.phase }, { on := 2, ground := Ground.phase }, { on := 3, ground := Ground.phase }, { on := 4, ground := Ground.phase }, { on := 5, ground := Ground.phase }, { on := 6, ground := Ground.phase }, { on := 7, ground := Ground.phase }, { on := 8, ground := Ground.phase }], guard := none }) rfl (by kernel_rfl) (fun K hK => ?_)
      go_simp
      refine hK.out _ _ (fun _ => trivial) ?_
      clear hK K
      (try simp only [Act.put, List.setIfInBounds_toArray, List.set_cons_zero, List.set_cons_succ])
      refine wpAnyT_done (by kernel_rfl) ?_
      go_wp2
      go_roundg (k - (n + c))
      case measure => omega
      case rel => exact ⟨n + c, hc1.2.1, fun _ => by omega, rfl, by rw [Int.natCast_add], HB6.out, HN6.out⟩
    · have hni : ¬ (n : Int) < (k : Int) := by omega
      have hke : n = k := by omega
      have HE : Hid (Nums wr w5.heap.size (List.replicate k x)) := Lib.hid (by
        have h9 := HNU.out
        unfold repF at h9
        rw [hke, Nat.sub_self, List.replicate_zero, List.append_nil] at h9
        exact h9)
      clear hke hlt
      go_wp2
      go_ret
      exact ⟨w5.heap.size, rfl, Nat.le_refl _, HBL.out, HE.out⟩
end Go.Proofs.YtbeaicmjohlboaaGreatDoor

namespace Go.Proofs.YtbeaicmjohlboaaGreatDoor
open Go.RowKit

theorem row3_reset {C : Circ} (h : Right C) : Row3 (reset3 C) := fun x hx => by
  unfold reset3 at hx
  obtain ⟨z, hz, rfl⟩ := List.mem_map.1 hx
  have h3 := (h.l z hz).2.2
  show V3 (if z.2.2 = z.1 then 2 else z.2.2)
  by_cases e : z.2.2 = z.1
  · rw [if_pos e]; exact .inr (.inr rfl)
  · rw [if_neg e]
    rcases h3 with q | q | q
    · exact .inl q
    · exact .inr (.inl q)
    · exact absurd q e
theorem fit3_reset {C : Circ} (h0 : (checkR C).2 = 0) : fit3 C (reset3 C) (all2 C) = 0 := by
  unfold fit3
  rw [if_pos h0, if_pos ⟨okRow_iff.2 ⟨reset3_len C, row3_reset (right_of h0)⟩, okRow_iff.2 ⟨by simp [all2], row3_all2 C⟩⟩]
/-- The row that Settle gives, and how often it was changed. -/
def settleR (C : Circ) (O : List Int) : List Int × Nat := settle3 C O (C.latches.length + 1) (reset3 C) 0
theorem settleR_len {C : Circ} {O : List Int} : (settleR C O).1.length = C.latches.length := by
  obtain ⟨L', n', e1, _, e3, _⟩ := settle3_fix (C := C) (O := O) (C.latches.length + 1) (reset3 C) 0 (reset3_len C) (by have := List.length_filter_le (fun x => decide (x ≠ (2 : Int))) (reset3 C); rw [reset3_len] at this; omega)
  unfold settleR
  rw [e1]
  rw [reset3_len] at e3
  exact e3

set_option maxHeartbeats 8000000 in
set_option maxRecDepth 100000 in
theorem tSettle_any (w : World) (V : CV) (C : Circ) (O : List Int) (h : C.In w V) (ok : C.Ok) (htc : TabC w) (hO : (checkR C).2 = 0 → IsOrd C O) :
    Calls Tryz.prog 5 #[V.val C.max] w fun e w' => Below w.heap.size w w' ∧ ∃ v n, e = .returned (.tuple #[v, .int .i64 n, .int .i64 (checkR C).2]) ∧ ((checkR C).2 ≠ 0 → v = .slice none 0 0 ∧ n = 0) ∧
      ((checkR C).2 = 0 → n = ((settleR C O).2 : Int) ∧ ∃ g, v = .slice (some ⟨g, 0, none⟩) C.latches.length C.latches.length ∧ w.heap.size ≤ g ∧ Nums w' g (settleR C O).1) := by
  have HRE := Lib.hid (fun (wx : World) (hx : C.In wx V) => tResets_any wx V C hx ok)
  have HVAL := Lib.hid (fun (wx : World) (sv rv : Value) (ht : TabC wx) (hx : C.In wx V) (hy : RowE 1 encI wx sv (reset3 C)) (hz : RowE 1 encI wx rv (all2 C)) => tValues_any wx V C sv rv (reset3 C) (all2 C) O hx ok ht hy hz hO)
  have hall : ∀ wz, Below (w.alloc (.cells (V.cells C.max) 29)).heap.size (w.alloc (.cells (V.cells C.max) 29)) wz → Blk wz w.heap.size 29 (V.cells C.max) ∧ C.In wz V ∧ TabC wz ∧ Below w.heap.size w wz := fun wz hb => by
    have h1 : Below w.heap.size w wz := ((Below.refl w.heap.size w).alloc (Nat.le_refl _) _).trans (hb.mono (by simp))
    exact ⟨(Blk.new w _ _).below hb (by simp), h.below h1, htc.below h1, h1⟩
  have HLW := Lib.hid (fun (wz : World) (hb : Below w.heap.size w wz) => And.intro (h.below hb) (htc.below hb))
  have HX : Hid (Below (w.alloc (.cells (V.cells C.max) 29)).heap.size (w.alloc (.cells (V.cells C.max) 29)) (w.alloc (.cells (V.cells C.max) 29))) := Lib.hid (Below.refl _ _)
  obtain ⟨AL, cL, eL, _, _, _⟩ := h.l
  obtain ⟨AI, cI, eI, _, _, _⟩ := h.i
  by_cases h0 : (checkR C).2 = 0
  · have hrt := right_of h0
    have hord := hO h0
    have hni := hrt.ni
    have HNS := Lib.hid (fun (wx : World) (gv : Nat) (hx : C.In wx V) (hT : Nums wx gv (val3 C O (reset3 C) (all2 C))) => newSpread_any wx V C gv (val3 C O (reset3 C) (all2 C)) hx hrt hT (val3_len C O (reset3 C) (all2 C)))
    have HSE := Lib.hid (fun (w0 wx : World) (S : SpB) (us : List Value) (US : List (List Int)) (H : List Bool) (hx : SP w0 wx S (.slice none 0 0) (val3 C O (reset3 C) (all2 C)) H [] us US) (hH : ∀ v : Nat, H.getD v false = false) (hU : ∀ v, v < S.n → IsUsers C v (US.getD v [])) (hst : ∀ wz, w0.grownBy wz (some S.gv) → C.In wz V ∧ TabC wz) (ha : S.aV = V.a) => settle_any w0 wx V S C O (reset3 C) _ H us US _ hx h0 hord (reset3_len C) (row3_reset hrt) rfl hH hU hst ha)
    have HRO := Lib.hid (fun (wx : World) (vv : Value) (T : List Int) (hx : C.In wx V) (hv : RowE 1 encI wx vv T) (hT : T.length = C.max.toNat + 1) => rowOf_any wx V C vv T hx hrt hv hT)
    have HROW : Hid (rowF C (val3 C O (settleR C O).1 (all2 C)) = (settleR C O).1) := Lib.hid (rowF_val h0 hord settleR_len (by simp [all2]))
    have HRT := Lib.hid hrt
    have HUSE : Hid (∀ v, v < C.max.toNat + 1 → IsUsers C v ((usersN C (C.max.toNat + 1) C.ands.length).getD v [])) := Lib.hid (fun v hv => usersN_is (fun z hz => by
      have h1 := hrt.a z hz
      unfold LitOk at h1
      have hm := hrt.m0
      omega) hv)
    rw [fit3_reset h0] at HVAL
    rw [h0] at HRE
    rw [h0]
    have H0 := Lib.hid h0
    clear h0 hrt hord hO h htc ok
    obtain ⟨Vi, Vl, Vo, Vb, Vc, Vj, Vf, Va, Vs, Vt⟩ := V
    simp only at eL eI
    subst eL eI
    obtain ⟨m, hmm⟩ : ∃ m, C.max = m := ⟨_, rfl⟩
    obtain ⟨nL, hnL⟩ : ∃ n, C.latches.length = n := ⟨_, rfl⟩
    obtain ⟨nI, hnI⟩ : ∃ n, C.inputs.length = n := ⟨_, rfl⟩
    obtain ⟨n, hn⟩ : ∃ n, m.toNat + 1 = n := ⟨_, rfl⟩
    rw [hmm, hnL, hnI] at hall HX
    rw [hmm, hnL, hnI] at HRE
    rw [hmm, hnL, hnI, hn] at HVAL HNS
    rw [hmm, hn] at HUSE
    rw [hmm, hnL, hnI, hn] at HRO
    rw [hnL, hnI] at HLW
    have hfold : settle3 C O (nL + 1) (reset3 C) 0 = settleR C O := by rw [← hnL]; rfl
    rw [hmm, hnL, hnI, hfold] at HSE
    clear hfold
    rw [hnI] at hni
    rw [hmm, hnL, hnI]
    have HMM := Lib.hid (And.intro hmm (And.intro hnL (And.intro hnI hn)))
    have HALL := Lib.hid hall
    clear hall hmm hnL hnI hn
    obtain ⟨c0, c1, c2, c3, c4, c5, c6, c7, c8, c9, c10⟩ := rbox_of (HALL.out _ HX.out).1
    go_enter Tryz.func5, Tryz.ntmps5
    go_upto_region 4 with (go_at_call 7; refine (HRE.out _ (HALL.out _ HX.out).2.1).mono ?_; rintro e w1 ⟨hb, v1, rfl, _, hyes⟩; obtain ⟨g1, rfl, hg1, ht1⟩ := hyes rfl; have HT1 := Lib.hid ht1; clear hyes hg1 ht1; have HXN := Lib.hid (bt HX.out (Nat.le_refl _) hb); clear HX hb c0 c1 c2 c3 c4 c5 c6 c7 c8 c9 c10; have HX := HXN; clear HXN)
    have HXD : Hid (Below (w.alloc (.cells #[.int .i64 m, .slice AI nI cI, .slice AL nL cL, Vo, Vb, Vc, Vj, Vf, Va, Vs, Vt] 29)).heap.size (w.alloc (.cells #[.int .i64 m, .slice AI nI cI, .slice AL nL cL, Vo, Vb, Vc, Vj, Vf, Va, Vs, Vt] 29)) w1.drew) := Lib.hid HX.out.drew
    have hbA : Below w1.drew.heap.size w1.drew (w1.drew.alloc (.cells #[.int .i64 2] 3)) := (Below.refl _ _).alloc (Nat.le_refl _) _
    have HXA := Lib.hid (bt HXD.out (Nat.le_refl _) hbA)
    have HTA := Lib.hid (Blk.below (Blk.drew HT1.out) hbA (Blk.lt (Blk.drew HT1.out)))
    have hrep := repeat_any (w1.drew.alloc (.cells #[.int .i64 2] 3)) w1.drew.heap.size 0 2 nI (by omega) ((Blk.new w1.drew 3 #[.int .i64 2]).cell 0)
    have HREP := Lib.hid hrep
    have hn9 : nL ≤ 16384 := by have h1 := HRT.out.nl; have h2 := HMM.out.2.1; omega
    clear hrep hbA
    refine wp_region_T (by kernel_rfl) (fun w' => (w'.cell? ⟨w.heap.size, 0, none⟩ = some (.int .i64 m) ∧ w'.cell? ⟨w.heap.size, 1, none⟩ = some (.slice AI nI cI) ∧ w'.cell? ⟨w.heap.size, 2, none⟩ = some (.slice AL nL cL) ∧ w'.cell? ⟨w.heap.size, 3, none⟩ = some Vo ∧ w'.cell? ⟨w.heap.size, 4, none⟩ = some Vb ∧ w'.cell? ⟨w.heap.size, 5, none⟩ = some Vc ∧ w'.cell? ⟨w.heap.size, 6, none⟩ = some Vj ∧ w'.cell? ⟨w.heap.size, 7, none⟩ = some Vf ∧ w'.cell? ⟨w.heap.size, 8, none⟩ = some Va ∧ w'.cell? ⟨w.heap.size, 9, none⟩ = some Vs ∧ w'.cell? ⟨w.heap.size, 10, none⟩ = some Vt)) 13 ?_
    have hHeld := rbox_of (HALL.out _ HXD.out).1
    refine wpAnyT_take (i := 0) (oi := { dst := some 19, op := Op.load 29 (Operand.tmp 1), type := 29, pos := "tern.go:88", after := #[], guard := none }) (v := ?u0) rfl (by kernel_rfl) (fun _ _ _ h => h) (by rfl) hHeld ?j0 ?_
    case j0 => (intro w' hSw; (try dsimp only at hSw); go_simp; try with_reducible rfl)
    (try simp only [Act.put, List.setIfInBounds_toArray, List.set_cons_zero, List.set_cons_succ])
    refine wpAnyT_take (i := 1) (oi := { dst := some 20, op := Op.move (Operand.tmp 5), type := 22, pos := "tern.go:88", after := #[], guard := none }) (v := ?u1) rfl (by kernel_rfl) (fun _ _ _ h => h) (by rfl) hHeld ?j1 ?_
    case j1 => (intro w' hSw; (try dsimp only at hSw); go_simp; try with_reducible rfl)
    (try simp only [Act.put, List.setIfInBounds_toArray, List.set_cons_zero, List.set_cons_succ])
    refine wpAnyT_take (i := 3) (oi := { dst := some 22, op := Op.fieldAddr 29 (Operand.tmp 1) 1, type := 0, pos := "tern.go:88", after := #[], guard := none }) (v := ?u3) rfl (by kernel_rfl) (fun _ _ _ h => h) (by rfl) hHeld ?j3 ?_
    case j3 => (intro w' hSw; (try dsimp only at hSw); go_simp; try with_reducible rfl)
    (try simp only [Act.put, List.setIfInBounds_toArray, List.set_cons_zero, List.set_cons_succ])
    refine wpAnyT_take (i := 4) (oi := { dst := some 23, op := Op.load 22 (Operand.tmp 22), type := 22, pos := "tern.go:88", after := #[{ on := 3, ground := Ground.data }], guard := none }) (v := ?u4) rfl (by kernel_rfl) (fun _ _ _ h => h) (by rfl) hHeld ?j4 ?_
    case j4 => (intro w' hSw; (try dsimp only at hSw); go_simp; try with_reducible rfl)
    (try simp only [Act.put, List.setIfInBounds_toArray, List.set_cons_zero, List.set_cons_succ])
    refine wpAnyT_take (i := 5) (oi := { dst := some 24, op := Op.call { callee := Callee.builtin Builtin.len, args := #[Operand.tmp 23], argTypes := #[22] }, type := 3, pos := "tern.go:88", after := #[{ on := 4, ground := Ground.data }], guard := none }) (v := ?u5) rfl (by kernel_rfl) (fun _ _ _ h => h) (by rfl) hHeld ?j5 ?_
    case j5 => (intro w' hSw; (try dsimp only at hSw); go_simp; try with_reducible rfl)
    (try simp only [Act.put, List.setIfInBounds_toArray, List.set_cons_zero, List.set_cons_succ])
    clear hHeld
    refine wpAnyT_one (i := 2) (o := { dst := some 21, op := Op.buildSlice 22 1 #[(0, Operand.const (Value.int IntKind.i64 2))], type := 22, pos := "tern.go:88", after := #[], guard := none }) rfl (by kernel_rfl) (fun K hK => ?_)
    go_simp
    refine hK.out _ _ (fun _ => rbox_of (HALL.out _ HXA.out).1) ?_
    clear hK K
    (try simp only [Act.put, List.setIfInBounds_toArray, List.set_cons_zero, List.set_cons_succ])
    refine wpAnyT_one (i := 6) (o := { dst := some 25, op := Op.call { callee := Callee.value (Operand.func 16), args := #[Operand.tmp 21, Operand.tmp 24], argTypes := #[22, 3] }, type := 22, pos := "tern.go:88", after := #[{ on := 2, ground := Ground.data }, { on := 5, ground := Ground.data }], guard := none }) rfl (by kernel_rfl) (fun K hK => ?_)
    go_simp
    go_at_call 16
    refine HREP.out.mono ?_
    rintro e w2 ⟨g2, rfl, hg2, hb2, ht2⟩
    have HX2 := Lib.hid (bt HXA.out (Nat.le_refl _) hb2)
    have HT2 := Lib.hid ht2
    have HTB := Lib.hid (Blk.below HTA.out hb2 (Blk.lt HTA.out))
    clear hg2 hb2 ht2
    refine hK.out _ _ (fun _ => rbox_of (HALL.out _ HX2.out).1) ?_
    clear hK K
    (try simp only [Act.put, List.setIfInBounds_toArray, List.set_cons_zero, List.set_cons_succ])
    have hv1 : RowE 1 encI w2 (.slice (some ⟨g1, 0, none⟩) nL nL) (reset3 C) := by
      have h9 := nums_row HTB.out (by rw [reset3_len, HMM.out.2.1]; unfold maxLen; omega)
      rw [reset3_len, HMM.out.2.1] at h9
      exact h9
    have hv2 : RowE 1 encI w2 (.slice (some ⟨g2, 0, none⟩) nI nI) (all2 C) := by
      have h9 := nums_row HT2.out (by rw [List.length_replicate]; unfold maxLen; omega)
      rw [List.length_replicate] at h9
      unfold all2
      rw [HMM.out.2.2.1]
      exact h9
    have HVC := Lib.hid (HVAL.out w2 _ _ (HALL.out _ HX2.out).2.2.1 (HALL.out _ HX2.out).2.1 hv1 hv2)
    clear hv1 hv2
    refine wpAnyT_one (i := 7) (o := { dst := some 26, op := Op.call { callee := Callee.value (Operand.func 15), args := #[Operand.tmp 19, Operand.tmp 20, Operand.tmp 25], argTypes := #[29, 22, 22] }, type := 34, pos := "tern.go:88", after := #[{ on := 0, ground := Ground.data }, { on := 1, ground := Ground.data }, { on := 6, ground := Ground.data }, { on := 6, ground := Ground.chain }], guard := none }) rfl (by kernel_rfl) (fun K hK => ?_)
    go_simp
    go_at_call 15
    refine HVC.out.mono ?_
    rintro e w3 ⟨hb3, v3, rfl, _, hyes⟩
    obtain ⟨g3, rfl, hg3, ht3⟩ := hyes trivial
    have HX3 := Lib.hid (bt HX2.out (Nat.le_refl _) hb3)
    have HG3 : Hid (w.heap.size < g3) := Lib.hid (by have := (HALL.out _ HX2.out).1.lt; omega)
    have HT3 := Lib.hid ht3
    clear hb3 hyes hg3 ht3
    refine hK.out _ _ (fun _ => rbox_of (HALL.out _ HX3.out).1) ?_
    clear hK K
    (try simp only [Act.put, List.setIfInBounds_toArray, List.set_cons_zero, List.set_cons_succ])
    have hHeld := rbox_of (HALL.out _ HX3.out).1
    refine wpAnyT_take (i := 8) (oi := { dst := some 18, op := Op.move (Operand.tmp 26), type := 34, pos := "tern.go:88", after := #[{ on := 7, ground := Ground.data }], guard := none }) (v := ?u8) rfl (by kernel_rfl) (fun _ _ _ h => h) (by rfl) hHeld ?j8 ?_
    case j8 => (intro w' hSw; (try dsimp only at hSw); go_simp; try with_reducible rfl)
    (try simp only [Act.put, List.setIfInBounds_toArray, List.set_cons_zero, List.set_cons_succ])
    refine wpAnyT_take (i := 9) (oi := { dst := some 27, op := Op.extract (Operand.tmp 18) 0, type := 22, pos := "tern.go:88", after := #[{ on := 8, ground := Ground.data }], guard := none }) (v := ?u9) rfl (by kernel_rfl) (fun _ _ _ h => h) (by rfl) hHeld ?j9 ?_
    case j9 => (intro w' hSw; (try dsimp only at hSw); go_simp; try with_reducible rfl)
    (try simp only [Act.put, List.setIfInBounds_toArray, List.set_cons_zero, List.set_cons_succ])
    refine wpAnyT_take (i := 10) (oi := { dst := some 28, op := Op.extract (Operand.tmp 18) 1, type := 31, pos := "tern.go:88", after := #[{ on := 8, ground := Ground.data }, { on := 11, ground := Ground.gcOnly Departure.lateStores }], guard := none }) (v := ?u10) rfl (by kernel_rfl) (fun _ _ _ h => h) (by rfl) hHeld ?j10 ?_
    case j10 => (intro w' hSw; (try dsimp only at hSw); go_simp; try with_reducible rfl)
    (try simp only [Act.put, List.setIfInBounds_toArray, List.set_cons_zero, List.set_cons_succ])
    refine wpAnyT_take (i := 11) (oi := { dst := some 7, op := Op.assign (Operand.tmp 27), type := 22, pos := "tern.go:88", after := #[{ on := 9, ground := Ground.data }, { on := 7, ground := Ground.chain }, { on := 0, ground := Ground.phase }, { on := 1, ground := Ground.phase }, { on := 2, ground := Ground.phase }, { on := 3, ground := Ground.phase }, { on := 4, ground := Ground.phase }, { on := 5, ground := Ground.phase }, { on := 6, ground := Ground.phase }, { on := 7, ground := Ground.phase }, { on := 8, ground := Ground.phase }, { on := 9, ground := Ground.phase }, { on := 10, ground := Ground.textOnly Departure.lateStores }], guard := none }) (v := ?u11) rfl (by kernel_rfl) (fun _ _ _ h => h) (by rfl) hHeld ?j11 ?_
    case j11 => (intro w' hSw; (try dsimp only at hSw); go_simp; try with_reducible rfl)
    (try simp only [Act.put, List.setIfInBounds_toArray, List.set_cons_zero, List.set_cons_succ])
    refine wpAnyT_take (i := 12) (oi := { dst := some 6, op := Op.assign (Operand.tmp 28), type := 31, pos := "tern.go:88", after := #[{ on := 10, ground := Ground.data }, { on := 11, ground := Ground.chain }, { on := 0, ground := Ground.phase }, { on := 1, ground := Ground.phase }, { on := 2, ground := Ground.phase }, { on := 3, ground := Ground.phase }, { on := 4, ground := Ground.phase }, { on := 5, ground := Ground.phase }, { on := 6, ground := Ground.phase }, { on := 7, ground := Ground.phase }, { on := 8, ground := Ground.phase }, { on := 9, ground := Ground.phase }, { on := 10, ground := Ground.phase }, { on := 11, ground := Ground.phase }], guard := none }) (v := ?u12) rfl (by kernel_rfl) (fun _ _ _ h => h) (by rfl) hHeld ?j12 ?_
    case j12 => (intro w' hSw; (try dsimp only at hSw); go_simp; try with_reducible rfl)
    (try simp only [Act.put, List.setIfInBounds_toArray, List.set_cons_zero, List.set_cons_succ])
    refine wpAnyT_done (by kernel_rfl) ?_
    obtain ⟨c0, c1, c2, c3, c4, c5, c6, c7, c8, c9, c10⟩ := hHeld
    clear HXD HXA HTA HREP HTB HT2 HT1 HVC
    have HNX := Lib.hid (HNS.out w3 g3 (HALL.out _ HX3.out).2.1 HT3.out)
    have HLOW : Hid (∀ wz, w3.grownBy wz (some g3) → Blk wz w.heap.size 29 #[.int .i64 m, .slice AI nI cI, .slice AL nL cL, Vo, Vb, Vc, Vj, Vf, Va, Vs, Vt] ∧ Below w.heap.size w wz) := Lib.hid (fun wz hg => ⟨(HALL.out _ HX3.out).1.grown hg (fun e => by injection e with e; have := HG3.out; omega), low_of hg (HALL.out _ HX3.out).2.2.2 (Nat.le_of_lt HG3.out)⟩)
    go_upto_region 9 with (first
      | (go_at_call 17; refine HNX.out.mono ?_; rintro e w4 ⟨bs, gh, uV, us, rfl, hb4, hsp⟩; have HSP := Lib.hid hsp; clear hsp c0 c1 c2 c3 c4 c5 c6 c7 c8 c9 c10; obtain ⟨c0, c1, c2, c3, c4, c5, c6, c7, c8, c9, c10⟩ := rbox_of (HALL.out _ (bt HX3.out (Nat.le_refl _) hb4)).1; clear hb4; have HSC := Lib.hid (HSE.out w3 w4 _ us _ _ HSP.out (fun v => by by_cases hv : v < n <;> simp [List.getD, hv]) HUSE.out (fun wz hg => HLW.out wz (HLOW.out wz hg).2) rfl))
      | (go_at_call 18; refine HSC.out.mono ?_; rintro e w5 ⟨tv, tr, rfl, hsp5⟩; have HS5 := Lib.hid hsp5; clear hsp5 c0 c1 c2 c3 c4 c5 c6 c7 c8 c9 c10))
    have hlow := (HLOW.out _ HS5.out.grown).2
    have hbx := (HLOW.out _ HS5.out.grown).1
    have hcall := HRO.out w5.drew (.slice (some ⟨g3, 0, none⟩) n n) (val3 C O (settleR C O).1 (all2 C)) (HLW.out _ hlow.drew).1 (by have h9 := nums_row (Blk.drew HS5.out.val) (by have h1 := HS5.out.tl; have h2 := HRT.out.m1; have h3 := HMM.out.1; have h4 := HMM.out.2.2.2; simp only at h1; rw [h1]; unfold maxLen; omega); have h1 := HS5.out.tl; simp only at h1 h9; rw [h1] at h9; exact h9) (by have h1 := HS5.out.tl; have h4 := HMM.out.2.2.2; simp only at h1; omega)
    rw [HROW.out] at hcall
    have HCALL := Lib.hid hcall
    have HDR : Hid (Below w.heap.size w w5.drew) := Lib.hid hlow.drew
    have HDB : Hid (∀ wz, Below w5.drew.heap.size w5.drew wz → Blk wz w.heap.size 29 #[.int .i64 m, .slice AI nI cI, .slice AL nL cL, Vo, Vb, Vc, Vj, Vf, Va, Vs, Vt] ∧ wz.cell? ⟨bs, 2, none⟩ = some (.slice (some ⟨g3, 0, none⟩) n n)) := Lib.hid (fun wz hb => ⟨(hbx.drew).below hb hbx.lt, (HS5.out.on ((Below.refl _ _).drew)).on hb |>.sp_cells.2.2.1⟩)
    have HB0 : Hid (Below w5.drew.heap.size w5.drew w5.drew) := Lib.hid (Below.refl _ _)
    clear hcall hlow hbx
    go_region_held3 (fun w' => (w'.cell? ⟨w.heap.size, 0, none⟩ = some (.int .i64 m) ∧ w'.cell? ⟨w.heap.size, 1, none⟩ = some (.slice AI nI cI) ∧ w'.cell? ⟨w.heap.size, 2, none⟩ = some (.slice AL nL cL) ∧ w'.cell? ⟨w.heap.size, 3, none⟩ = some Vo ∧ w'.cell? ⟨w.heap.size, 4, none⟩ = some Vb ∧ w'.cell? ⟨w.heap.size, 5, none⟩ = some Vc ∧ w'.cell? ⟨w.heap.size, 6, none⟩ = some Vj ∧ w'.cell? ⟨w.heap.size, 7, none⟩ = some Vf ∧ w'.cell? ⟨w.heap.size, 8, none⟩ = some Va ∧ w'.cell? ⟨w.heap.size, 9, none⟩ = some Vs ∧ w'.cell? ⟨w.heap.size, 10, none⟩ = some Vt) ∧ w'.cell? ⟨bs, 2, none⟩ = some (.slice (some ⟨g3, 0, none⟩) n n))
      (first | exact ⟨rbox_of (HDB.out _ HB0.out).1, (HDB.out _ HB0.out).2⟩ | exact ⟨rbox_of (HDB.out _ HB6.out).1, (HDB.out _ HB6.out).2⟩ | go_keep)
      (first | (go_at_call 19; refine HCALL.out.mono ?_; rintro e w6 ⟨g6, rfl, hg6, hb6, ht6⟩; have HB6 := Lib.hid hb6; have HG6 := Lib.hid (And.intro (Nat.le_trans HDR.out.size hg6) ht6); clear hg6 hb6 ht6))
    go_wp2
    go_ret3
    exact ⟨bt HDR.out (Nat.le_refl _) HB6.out, _, _, rfl, fun h => absurd rfl h, fun _ => ⟨rfl, g6, rfl, HG6.out.1, HG6.out.2⟩⟩
  · obtain ⟨r, hr⟩ : ∃ r, (checkR C).2 = r := ⟨_, rfl⟩
    rw [hr] at HRE h0
    rw [hr]
    have hq : (r != 0) = true := by simpa using h0
    have H0 := Lib.hid h0
    clear h0 hr hO h htc ok HVAL HLW
    obtain ⟨Vi, Vl, Vo, Vb, Vc, Vj, Vf, Va, Vs, Vt⟩ := V
    simp only at eL eI
    subst eL eI
    obtain ⟨m, hmm⟩ : ∃ m, C.max = m := ⟨_, rfl⟩
    obtain ⟨nL, hnL⟩ : ∃ n, C.latches.length = n := ⟨_, rfl⟩
    obtain ⟨nI, hnI⟩ : ∃ n, C.inputs.length = n := ⟨_, rfl⟩
    rw [hmm, hnL, hnI] at hall HX HRE
    rw [hmm, hnL, hnI]
    have HALL := Lib.hid hall
    clear hall hmm hnL hnI
    obtain ⟨c0, c1, c2, c3, c4, c5, c6, c7, c8, c9, c10⟩ := rbox_of (HALL.out _ HX.out).1
    go_enter Tryz.func5, Tryz.ntmps5
    go_wp2_with (go_at_call 7; refine (HRE.out _ (HALL.out _ HX.out).2.1).mono ?_; rintro e w1 ⟨hb, v1, rfl, hno, _⟩; obtain rfl := hno H0.out; clear hno; have HXN := Lib.hid (bt HX.out (Nat.le_refl _) hb); clear HX hb c0 c1 c2 c3 c4 c5 c6 c7 c8 c9 c10; have HX := HXN; clear HXN)
    go_ret3
    exact ⟨(HALL.out _ HX.out).2.2.2, _, 0, rfl, fun _ => ⟨rfl, rfl⟩, fun h => absurd h H0.out⟩
end Go.Proofs.YtbeaicmjohlboaaGreatDoor
