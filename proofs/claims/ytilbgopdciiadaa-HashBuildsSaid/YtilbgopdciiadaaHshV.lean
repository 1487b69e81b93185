/- Hash: the contract of tell: the map and the builder that a circuit's gates make. -/
import Derived.Test.YtilbgopdciiadaaHshD
import Derived.Test.YtilbgopdciiadaaRfA
namespace Go.Proofs.Ytilbgopdciiadaa
open Go.RowKit Go.Maps

theorem xor_zero {x : Int} (h : I64 x) : bits .xor .i64 x 0 = x := by
  unfold I64 at h
  have g1 : (BitVec.ofInt 64 x).toNat = (x % 18446744073709551616).toNat := by rw [BitVec.toNat_ofInt]; rfl
  have g2 : (BitVec.ofInt 64 (0 : Int)).toNat = 0 := by decide
  show IntKind.i64.wrap ((BitVec.ofInt 64 x ^^^ BitVec.ofInt 64 (0 : Int)).toNat : Int) = _
  rw [BitVec.toNat_xor, g1, g2, Nat.xor_zero]
  simp [IntKind.wrap, IntKind.bits, IntKind.signed]; omega
/-- A map of literals: all from 0 to the greatest. -/
def MapOk (M : List Int) : Prop := ∀ v, 0 ≤ M.getD v 0 ∧ M.getD v 0 ≤ 32769
theorem mvX_rng {M : List Int} (h : MapOk M) (l : Int) : 0 ≤ mvX M l ∧ mvX M l ≤ 32769 := by
  have := h (l / 2).toNat
  unfold mvX neg
  split
  · exact this
  · split <;> omega
set_option maxHeartbeats 2000000 in
set_option maxRecDepth 100000 in
theorem of_any (w : World) (g n : Nat) (M : List Int) (l : Int) (h : Nums w g M) (hM : M.length = n) (hk : MapOk M) (h0 : 0 ≤ l) (h1 : l / 2 < (n : Int)) (hn : n ≤ 1000000) :
    Calls Try.prog 87 #[.slice (some ⟨g, 0, none⟩) n n, .int .i64 l] w fun e w' => e = .returned (.int .i64 (mvX M l)) ∧ w' = w := by
  obtain ⟨q, hq⟩ : ∃ q : Nat, l / 2 = (q : Int) := ⟨(l / 2).toNat, by omega⟩
  have hqn : q < n := by omega
  have hq2 : l.tdiv 2 = (q : Int) := by rw [tdiv_nn h0, hq]
  have hr2 : l.tmod 2 = l % 2 := Int.tmod_eq_emod_of_nonneg h0
  have hqw : IntKind.i64.wrap (q : Int) = (q : Int) := by simp [IntKind.wrap, IntKind.bits, IntKind.signed]; omega
  have hqi : (q : Int) < (n : Int) := by omega
  have hqi0 : (0 : Int) ≤ (q : Int) := by omega
  obtain ⟨x, hx⟩ : ∃ x, M.getD q 0 = x := ⟨_, rfl⟩
  have k0 := Nums.cell h (getD_int (show q < M.length by rw [hM]; exact hqn))
  rw [hx] at k0
  have hxr := hk q
  rw [hx] at hxr
  have hv : mvX M l = if l % 2 = 0 then x else neg x := by unfold mvX; rw [hq, Int.toNat_natCast, hx]
  rw [hv]
  have x0 := xor_zero (x := x) (by unfold I64; omega)
  have x1 := xor_neg (x := x) (by unfold I64; omega)
  have hm : l % 2 = 0 ∨ l % 2 = 1 := by omega
  obtain ⟨r, hr⟩ : ∃ r, l % 2 = r := ⟨_, rfl⟩
  rw [hr] at hr2 hm ⊢
  have hrw : IntKind.i64.wrap r = r := by rcases hm with e | e <;> (subst e; rfl)
  obtain ⟨nx, hnx⟩ : ∃ z, neg x = z := ⟨_, rfl⟩
  rw [hnx] at x1 ⊢
  clear h hM hk hx hv hr h0 h1 hq hnx
  rcases hm with e | e
  · subst e
    rw [if_pos rfl]
    go_enter Try.func87, Try.ntmps87
    go_wp2
    go_ret
    exact ⟨rfl, rfl⟩
  · subst e
    rw [if_neg (by decide)]
    go_enter Try.func87, Try.ntmps87
    go_wp2
    go_ret
    exact ⟨rfl, rfl⟩

set_option maxHeartbeats 4000000 in
set_option maxRecDepth 100000 in
theorem all_any (w : World) (g n : Nat) (M : List Int) (v : Value) (L : List Int) (h : Nums w g M) (hM : M.length = n) (hk : MapOk M) (hn : n ≤ 1000000) (hL : RowE 1 encI w v L) (hl : L.length ≤ 16384) (hr : ∀ l ∈ L, 0 ≤ l ∧ l / 2 < (n : Int)) :
    Calls Try.prog 89 #[.slice (some ⟨g, 0, none⟩) n n, v] w fun e w' => Below w.heap.size w w' ∧ ∃ g2, e = .returned (.slice (some ⟨g2, 0, none⟩) L.length L.length) ∧ w.heap.size ≤ g2 ∧ Nums w' g2 (L.map (mvX M)) := by
  obtain ⟨A, c, rfl, _, hm, hrun⟩ := hL
  obtain ⟨k, hkk⟩ : ∃ k, L.length = k := ⟨_, rfl⟩
  have HRUN := Lib.hid hrun
  have HR := Lib.hid hr
  have HK := Lib.hid hkk
  have HOF := Lib.hid (fun (wx : World) (l : Int) (hb : Below w.heap.size w wx) (h0 : 0 ≤ l) (h1 : l / 2 < (n : Int)) => of_any wx g n M l (Blk.below h hb (Blk.lt h)) hM hk h0 h1 hn)
  rw [hkk] at hl ⊢
  have hmk := make_ints k (by omega)
  have HN : Hid ((L.map (mvX M)).length = k) := Lib.hid (by rw [List.length_map]; exact hkk)
  have HS0 : Hid (Nums (w.alloc (.cells (madeCells #[Value.int .i64 0] k) 3)) w.heap.size (List.replicate k 0) ∧ Below w.heap.size w (w.alloc (.cells (madeCells #[Value.int .i64 0] k) 3))) := by
    refine Lib.hid ⟨?_, (Below.refl _ _).alloc (Nat.le_refl _) _⟩
    unfold Nums
    rw [← made_ints]
    exact Blk.new w 3 _
  have HMP := Lib.hid (fun (i : Nat) (l : Int) (hi : L[i]? = some l) => (show (L.map (mvX M))[i]? = some (mvX M l) from by rw [List.getElem?_map, hi]; rfl))
  generalize L.map (mvX M) = N at *
  clear hrun hr hkk h hM hk hm
  go_enter Try.func89, Try.ntmps89
  go_wp2
  go_loopg [13] k (fun j iv wx => ∃ q : Nat, q ≤ k ∧ j = k - q ∧ iv = .int .i64 q ∧ Below w.heap.size w wx ∧ Nums wx w.heap.size (N.take q ++ List.replicate (k - q) 0))
  case atStart => exact ⟨0, Nat.zero_le _, rfl, rfl, HS0.out.2, HS0.out.1⟩
  case round =>
    obtain ⟨q, hq, hgk, rfl, hbw, hnu⟩ := hrel
    subst hgk
    clear HS0
    have HBW := Lib.hid hbw
    have HNU := Lib.hid hnu
    by_cases hlt : q < k
    · obtain ⟨l, hx⟩ : ∃ x, L[q]? = some x := ⟨_, List.getElem?_eq_getElem (by rw [HK.out]; exact hlt)⟩
      obtain ⟨b, off, e, hb, hcell⟩ := HRUN.out q l hx
      subst e
      have k0 := (hbw.cell (p := ⟨b, off + (q * 1 + 0), none⟩) hb).trans (hcell 0 _ rfl)
      simp only [Nat.mul_one, Nat.add_zero] at k0
      obtain ⟨l0, l1⟩ := HR.out l (List.mem_of_getElem? hx)
      have hof := HOF.out wr l hbw l0 l1
      have HNX := Lib.hid (HMP.out q l hx)
      obtain ⟨z, hz⟩ : ∃ z, mvX M l = z := ⟨_, rfl⟩
      rw [hz] at hof HNX
      have HOL := Lib.hid hof
      have htl : q < (N.take q ++ List.replicate (k - q) 0).length := by rw [fill3_len HN.out hq]; exact hlt
      have hold := Nums.cell hnu (getD_int htl)
      have hfr := Blk.frozen hnu q
      have hgb := Blk.lt hnu
      have hqi : (q : Int) < (k : Int) := by omega
      have hqi0 : (0 : Int) ≤ (q : Int) := by omega
      clear hcell hx hof htl hnu hbw hz
      go_wp2_with (go_at_call 87; refine HOL.out.mono ?_; rintro e w5 ⟨rfl, hw5⟩; rw [hw5]; clear hw5 w5)
      go_roundg (k - (q + 1))
      case measure => omega
      case rel =>
        refine ⟨q + 1, by omega, rfl, by go_num, HBW.out.setCell (by simp) _, ?_⟩
        rw [← fill3_set HN.out HNX.out]
        exact Nums.set_ HNU.out q z
    · have hqe : q = k := by omega
      have HF : Hid (Nums wr w.heap.size N) := Lib.hid (by have := hnu; rw [hqe, fill3_end HN.out] at this; exact this)
      have hqi : ¬ (q : Int) < (k : Int) := by omega
      clear hnu hbw
      go_wp2
      go_ret
      first | exact ⟨HBW.out, _, rfl, Nat.le_refl _, HF.out⟩ | exact ⟨HBW.out, w.heap.size, rfl, Nat.le_refl _, HF.out⟩
end Go.Proofs.Ytilbgopdciiadaa

namespace Go.Proofs.Ytilbgopdciiadaa
open Go.RowKit Go.Maps

/-- What stands while a circuit is told to a builder. -/
structure TL (w0 wx : World) (cb g bx : Nat) (CS : Array Value) (b : Bd) (M : List Int) : Prop where
  below : Below w0.heap.size w0 wx
  lo : w0.heap.size ≤ g
  ne : g ≠ cb
  nums : Nums wx g M
  box : Blk wx cb 29 CS
  bld : ∃ F, HB wx bx b F ∧ ¬ F g ∧ ¬ F cb ∧ ∀ k, F k → w0.heap.size ≤ k
section
variable {w0 wx w2 : World} {cb g bx : Nat} {CS : Array Value} {b b' : Bd} {M : List Int}
theorem TL.on (t : TL w0 wx cb g bx CS b M) (hb : Below wx.heap.size wx w2) : TL w0 w2 cb g bx CS b M := by
  obtain ⟨F, h1, h2, h3, h4⟩ := t.bld
  exact ⟨bt t.below (Nat.le_refl _) hb, t.lo, t.ne, Blk.below t.nums hb (Blk.lt t.nums), t.box.below hb t.box.lt, F, h1.below hb, h2, h3, h4⟩
theorem TL.put (t : TL w0 wx cb g bx CS b M) (q : Nat) (x : Int) : TL w0 (wx.setCell ⟨g, q, none⟩ (.int .i64 x)) cb g bx CS b (M.set q x) := by
  obtain ⟨F, h1, h2, h3, h4⟩ := t.bld
  exact ⟨t.below.setCell t.lo _, t.lo, t.ne, Nums.set_ t.nums q x, t.box.far (Ne.symm t.ne) _, F, h1.but (G := fun k => k = g) ((But.refl (fun k => k = g) wx).set_ (p := ⟨g, q, none⟩) (.inl rfl) _) (fun k hf e => h2 (e ▸ hf)), h2, h3, h4⟩
theorem TL.did {F : Nat → Prop} (t : TL w0 wx cb g bx CS b M) (h : ¬ F g ∧ ¬ F cb ∧ ∀ k, F k → w0.heap.size ≤ k) (d : Did wx w2 bx F b') : TL w0 w2 cb g bx CS b' M := by
  obtain ⟨F', k1, k2, k3⟩ := d
  have lg := Blk.lt t.nums
  have lc := t.box.lt
  exact ⟨t.below.trans (k2.below t.below.size h.2.2), t.lo, t.ne, k2.blk t.nums h.1, k2.blk t.box h.2.1, F', k1, fun hg => (k3 g hg).elim h.1 (fun q => by omega), fun hg => (k3 cb hg).elim h.2.1 (fun q => by omega), fun k hk => (k3 k hk).elim (h.2.2 k) (fun q => Nat.le_trans t.below.size q)⟩
end
theorem numF_appH (xs : List Int) (l : Int) (n : Nat) : (numF (xs ++ [l]) (0, List.replicate n 0)).2 = (numF xs (0, List.replicate n 0)).2.set (l / 2).toNat (2 * (xs.length : Int) + 2) := by
  unfold numF
  rw [List.foldl_append]
  have h := (numF_len xs (0, List.replicate n 0)).2
  unfold numF at h
  simp only [List.foldl_cons, List.foldl_nil]
  rw [h]
  simp
theorem make_became (n : Nat) (h : n ≤ 1000000) (wx : World) : (Instr.makeSlice 86 (.int .i64 (n : Int)) (.int .i64 (n : Int))).run Try.prog wx = .ok (.slice (some ⟨wx.heap.size, 0, none⟩) n n) (wx.alloc (.cells (madeCells #[Value.int .i64 0] n) 3)) := by
  obtain ⟨i0, hi0, hz0, hz1, hz2⟩ := info_of' int_info'
  have := run_make (P := Try.prog) wx 86 3 i0 (.int .i64 0) Try.underlying86 hi0 hz0 .i64 .i64 n n (by omega) (by omega) (by rw [hz2]; omega) (by omega)
  rw [hz1] at this
  simpa [Value.cells] using this
theorem inE_at {n k : Nat} (h : k < n) : inE n (k : Int) = (2 * (k : Int) + 2, 0) := by unfold inE; rw [if_pos (by omega)]
theorem laE_at {n m k : Nat} (h : k < m) : laE n m (k : Int) = (2 * ((n : Int) + k) + 2, 0) := by unfold laE; rw [if_pos (by omega)]
theorem map_ok {b : Bd} {M : List Int} (hb : b.Ok) (h : ∀ v, b.has (M.getD v 0) = true) : MapOk M := fun v => by
  have h1 := has_iff.1 (h v)
  have h2 := hb.last
  omega

set_option maxHeartbeats 20000000 in
set_option maxRecDepth 100000 in
theorem tell_any (w0 w : World) (bx : Nat) (F : Nat → Prop) (V : CV) (C : Circ) (gv : Value) (O : List Int) (hin : C.In w0 V) (hgv : RowE 1 encI w0 gv O) (hb0 : Below w0.heap.size w0 w) (h : HB w bx (bd0 C) F) (hF : ∀ k, F k → w0.heap.size ≤ k) (h0 : (checkR C).2 = 0) (hO : IsOrd C O) :
    Calls Try.prog 37 #[.pointer (some ⟨bx, 0, none⟩), V.val C.max, gv] w fun e w' => ∃ g cb, e = .returned (.slice (some ⟨g, 0, none⟩) (C.max.toNat + 1) (C.max.toNat + 1)) ∧ TL w0 w' cb g bx (V.cells C.max) (bldB C O) (bldM C O) := by
  have hf := fine_of h0
  have hr := right_of h0
  have HF := Lib.hid hf
  have HO := Lib.hid hO
  have HR := Lib.hid hr
  have HIN := Lib.hid hin
  obtain ⟨Vi, Vl, Vo, Vb, Vc, Vj, Vf, Va, Vs, Vt⟩ := V
  obtain ⟨AI, cI, hvi, _, _, hrI⟩ := hin.i
  obtain ⟨AL, cL, hvl, _, _, hrL⟩ := hin.l
  obtain ⟨AA, cA, hva, _, _, hrA⟩ := hin.a
  obtain ⟨AG, cG, hvg, _, _, hrG⟩ := hgv
  simp only at hvi hvl hva
  subst hvi hvl hva hvg
  obtain ⟨nI, hnI⟩ : ∃ n, C.inputs.length = n := ⟨_, rfl⟩
  obtain ⟨nL, hnL⟩ : ∃ n, C.latches.length = n := ⟨_, rfl⟩
  obtain ⟨nA, hnA⟩ : ∃ n, C.ands.length = n := ⟨_, rfl⟩
  obtain ⟨m, hmm⟩ : ∃ m : Nat, C.max = (m : Int) := ⟨C.max.toNat, by have := hf.m0; omega⟩
  have hlo : O.length = nA := hO.l.trans hnA
  have hm1 := hf.m1
  have hni := hr.ni
  have hnl := hr.nl
  have hna := hr.na
  rw [hnI] at hni ⊢
  rw [hnL] at hnl ⊢
  rw [hnA] at hna ⊢
  rw [hmm] at hm1 ⊢
  rw [hlo]
  rw [show ((m : Int)).toNat = m by omega]
  have HNI := Lib.hid hnI
  have HNL := Lib.hid hnL
  have HNA := Lib.hid hnA
  have HMM := Lib.hid hmm
  have HLO := Lib.hid hlo
  have HRI := Lib.hid hrI
  have HRL := Lib.hid hrL
  have HRA := Lib.hid hrA
  have HRG := Lib.hid hrG
  have hmk := make_became (m + 1) (by omega)
  push_cast at hmk
  have hw1 : IntKind.i64.wrap ((m : Int) + 1) = (m : Int) + 1 := by simp [IntKind.wrap, IntKind.bits, IntKind.signed]; omega
  dsimp only [CV.val, CV.cells]
  generalize hCS : (#[.int .i64 (m : Int), .slice AI nI cI, .slice AL nL cL, Vo, Vb, Vc, Vj, Vf, .slice AA nA cA, Vs, Vt] : Array Value) = CS
  have HCS := Lib.hid hCS
  have hb1 : Below w.heap.size w (w.alloc (.cells CS 29)) := (Below.refl _ _).alloc (Nat.le_refl _) _
  have hbx1 := Blk.new w 29 CS
  obtain ⟨W1, hW1⟩ : ∃ W1, w.alloc (.cells CS 29) = W1 := ⟨_, rfl⟩
  have hs1 : W1.heap.size = w.heap.size + 1 := by rw [← hW1]; simp
  rw [hW1] at hb1 hbx1
  have HW1 := Lib.hid hW1
  have hb2 : Below W1.heap.size W1 (W1.alloc (.cells (madeCells #[Value.int .i64 0] (m + 1)) 3)) := (Below.refl _ _).alloc (Nat.le_refl _) _
  have hT0 : TL w0 (W1.alloc (.cells (madeCells #[Value.int .i64 0] (m + 1)) 3)) w.heap.size W1.heap.size bx CS (bd0 C) (List.replicate (m + 1) 0) := by
    have hs0 := hb0.size
    refine ⟨bt (bt hb0 (Nat.le_refl _) hb1) (Nat.le_refl _) hb2, by omega, by omega, new_ints W1 (m + 1), hbx1.below hb2 hbx1.lt, F, (h.below hb1).below hb2, fun hk => ?_, fun hk => ?_, hF⟩
    · have := h.lt hk; omega
    · have := h.lt hk; omega
  have HT0 := Lib.hid hT0
  obtain ⟨W2, hW2⟩ : ∃ W2, W1.alloc (.cells (madeCells #[Value.int .i64 0] (m + 1)) 3) = W2 := ⟨_, rfl⟩
  rw [hW2] at HT0
  have HW2 := Lib.hid hW2
  have HML : Hid (∀ L : List Int, (numF L (0, List.replicate (m + 1) 0)).2.length = m + 1) := Lib.hid (fun L => by rw [(numF_len _ _).1]; simp)
  obtain ⟨g, hg⟩ : ∃ g, W1.heap.size = g := ⟨_, rfl⟩
  rw [hg] at HT0
  have HG := Lib.hid hg
  obtain ⟨cb, hcb⟩ : ∃ cb, w.heap.size = cb := ⟨_, rfl⟩
  rw [hcb] at HT0
  have HCELL : Hid (∀ wz, Blk wz cb 29 CS → wz.cell? ⟨cb, 0, none⟩ = some (.int .i64 (m : Int)) ∧ wz.cell? ⟨cb, 1, none⟩ = some (.slice AI nI cI) ∧ wz.cell? ⟨cb, 2, none⟩ = some (.slice AL nL cL) ∧ wz.cell? ⟨cb, 8, none⟩ = some (.slice AA nA cA)) := Lib.hid (fun wz hb => by
    rw [← HCS.out] at hb
    obtain ⟨c0, c1, c2, c3, c4, c5, c6, c7, c8, c9, c10⟩ := rbox_of hb
    exact ⟨c0, c1, c2, c8⟩)
  obtain ⟨c0, c1, c2, c8⟩ := HCELL.out W1 (by rw [← hcb]; exact hbx1)
  have HCB := Lib.hid hcb
  clear hf hr hin hrI hrL hrA hrG hnI hnL hnA hmm hlo hb1 hbx1 hW1 hs1 hb2 hT0 hW2 hg hcb hO hb0 h hF h0 hCS
  go_enter Try.func37, Try.ntmps37
  go_upto_region 1 with (fail)
  rw [HW1.out, HCB.out]
  go_upto_region 2 with (fail)
  rw [HW2.out, HG.out]
  clear c0 c1 c2 c8
  obtain ⟨c0, c1, c2, c8⟩ := HCELL.out W2 HT0.out.box
  go_wp2
  go_loopg [22] nI (fun j iv wx => ∃ k : Nat, k ≤ nI ∧ j = nI - k ∧ iv = .int .i64 k ∧ TL w0 wx cb g bx CS (bd0 C) (numF (C.inputs.take k) (0, List.replicate (m + 1) 0)).2)
  case atStart => exact ⟨0, Nat.zero_le _, rfl, rfl, HT0.out⟩
  case round =>
    obtain ⟨k, hk, hgk, rfl, ht⟩ := hrel
    subst hgk
    have HT := Lib.hid ht
    clear ht HT0 c0 c1 c2 c8
    obtain ⟨c0, c1, c2, c8⟩ := HCELL.out _ HT.out.box
    by_cases hlt : k < nI
    · obtain ⟨x, hx⟩ : ∃ x, C.inputs[k]? = some x := ⟨_, List.getElem?_eq_getElem (by rw [HNI.out]; exact hlt)⟩
      obtain ⟨ib, off, e, hib, hcell⟩ := HRI.out k x hx
      subst e
      have i0 := (HT.out.below.cell (p := ⟨ib, off + (k * 1 + 0), none⟩) hib).trans (hcell 0 _ rfl)
      simp only [Nat.mul_one, Nat.add_zero] at i0
      obtain ⟨p1, p2⟩ := HR.out.i x (List.mem_of_getElem? hx)
      rw [HMM.out] at p2
      obtain ⟨F1, f1, f2⟩ := HT.out.bld
      have HINP := Lib.hid (hInput_any wr bx (bd0 C) F1 (k : Int) f1)
      rw [show (bd0 C).i = nI from HNI.out, inE_at hlt] at HINP
      obtain ⟨y, hy⟩ : ∃ y, (numF (C.inputs.take k) (0, List.replicate (m + 1) 0)).2[(x / 2).toNat]? = some y := ⟨_, List.getElem?_eq_getElem (by rw [HML.out]; omega)⟩
      have cm := Nums.cell HT.out.nums hy
      have fm := Blk.frozen HT.out.nums (x / 2).toNat
      have lm := Blk.lt HT.out.nums
      have hq := tdiv_nn (a := x) (b := 2) (by omega)
      have hqw : IntKind.i64.wrap (x / 2) = x / 2 := i64_small (by omega) (by omega)
      have hk0 : (0 : Int) ≤ (k : Int) := by omega
      have hk1 : (k : Int) < (nI : Int) := by omega
      have hq0 : (0 : Int) ≤ x / 2 := by omega
      have hq1 : x / 2 < (m : Int) + 1 := by omega
      have HN2 := Lib.hid (HT.out.put (x / 2).toNat (2 * (k : Int) + 2))
      have hM2 : (numF (C.inputs.take (k + 1)) (0, List.replicate (m + 1) 0)).2 = (numF (C.inputs.take k) (0, List.replicate (m + 1) 0)).2.set (x / 2).toNat (2 * (k : Int) + 2) := by
        rw [List.take_add_one, hx]
        have := numF_appH (C.inputs.take k) x (m + 1)
        rw [List.length_take, HNI.out, Nat.min_eq_left hk] at this
        simpa using this
      rw [← hM2] at HN2
      clear hx hcell f1 f2 hy hM2 hib
      go_wp2_with (go_at_call 85; refine HINP.out.mono ?_; rintro e w5 ⟨rfl, hw5⟩; rw [hw5]; clear hw5 w5)
      go_roundg (nI - (k + 1))
      case measure => omega
      case rel => exact ⟨k + 1, by omega, rfl, by go_num, HN2.out⟩
    · have hke : nI = k := by omega
      have HE : Hid (TL w0 wr cb g bx CS (bd0 C) (numF C.inputs (0, List.replicate (m + 1) 0)).2) := Lib.hid (by
        have := HT.out
        rwa [List.take_of_length_le (by rw [HNI.out, hke]; exact Nat.le_refl _)] at this)
      have hk1 : ¬ (k : Int) < (nI : Int) := by omega
      clear HT hke
      go_wp2
      clear c0 c1 c2 c8
      go_loopg [41] nL (fun j iv wx => ∃ k : Nat, k ≤ nL ∧ j = nL - k ∧ iv = .int .i64 k ∧ TL w0 wx cb g bx CS (bd0 C) (numF (C.inputs ++ (C.latches.map (·.1)).take k) (0, List.replicate (m + 1) 0)).2)
      case atStart => exact ⟨0, Nat.zero_le _, rfl, rfl, by simpa using HE.out⟩
      case round =>
        obtain ⟨k, hk, hgk, rfl, ht⟩ := hrel
        subst hgk
        have HT := Lib.hid ht
        clear ht HE
        obtain ⟨c0, c1, c2, c8⟩ := HCELL.out _ HT.out.box
        by_cases hlt : k < nL
        · obtain ⟨x, hx⟩ : ∃ x, C.latches[k]? = some x := ⟨_, List.getElem?_eq_getElem (by rw [HNL.out]; exact hlt)⟩
          obtain ⟨lb, off, e, hlb, hcell⟩ := HRL.out k x hx
          subst e
          obtain ⟨⟨p1, p2⟩, _, _⟩ := HR.out.l x (List.mem_of_getElem? hx)
          rw [HMM.out] at p2
          obtain ⟨x0, x1, x2⟩ := x
          have i0 := (HT.out.below.cell (p := ⟨lb, off + (k * 3 + 0), none⟩) hlb).trans (hcell 0 _ rfl)
          have i1 := (HT.out.below.cell (p := ⟨lb, off + (k * 3 + 1), none⟩) hlb).trans (hcell 1 _ rfl)
          have i2 := (HT.out.below.cell (p := ⟨lb, off + (k * 3 + 2), none⟩) hlb).trans (hcell 2 _ rfl)
          simp only [Nat.add_zero, ← Nat.add_assoc] at i0 i1 i2
          simp only at p1 p2
          have hx2 : (C.latches.map (·.1))[k]? = some x0 := by rw [List.getElem?_map, hx]; rfl
          have hbl : Below wr.heap.size wr ((wr.alloc (.cells #[.int .i64 x0, .int .i64 x1, .int .i64 x2] 78)).drew) := ((Below.refl _ _).alloc (Nat.le_refl _) _).drew
          have HLB : Hid (Blk ((wr.alloc (.cells #[.int .i64 x0, .int .i64 x1, .int .i64 x2] 78)).drew) wr.heap.size 78 #[.int .i64 x0, .int .i64 x1, .int .i64 x2]) := Lib.hid ((Blk.new wr 78 #[.int .i64 x0, .int .i64 x1, .int .i64 x2]).drew)
          have HGL : Hid (wr.heap.size ≠ g) := Lib.hid (by have := Blk.lt HT.out.nums; omega)
          obtain ⟨WD, hWD⟩ : ∃ WD, (wr.alloc (.cells #[.int .i64 x0, .int .i64 x1, .int .i64 x2] 78)).drew = WD := ⟨_, rfl⟩
          rw [hWD] at hbl HLB
          have HWD := Lib.hid hWD
          have HT3 := Lib.hid (HT.out.on hbl)
          obtain ⟨lb2, hlb2⟩ : ∃ z, wr.heap.size = z := ⟨_, rfl⟩
          rw [hlb2] at HLB HGL
          have HL2 := Lib.hid hlb2
          obtain ⟨F1, f1, f2⟩ := HT3.out.bld
          have HLA := Lib.hid (hLatch_any WD bx (bd0 C) F1 (k : Int) f1)
          rw [show (bd0 C).i = nI from HNI.out, show (bd0 C).l = nL from HNL.out, laE_at hlt] at HLA
          obtain ⟨y, hy⟩ : ∃ y, (numF (C.inputs ++ (C.latches.map (·.1)).take k) (0, List.replicate (m + 1) 0)).2[(x0 / 2).toNat]? = some y := ⟨_, List.getElem?_eq_getElem (by rw [HML.out]; omega)⟩
          have cm := Nums.cell HT3.out.nums hy
          have fm := Blk.frozen HT3.out.nums (x0 / 2).toNat
          have lm := Blk.lt HT3.out.nums
          have hq := tdiv_nn (a := x0) (b := 2) (by omega)
          have hqw : IntKind.i64.wrap (x0 / 2) = x0 / 2 := i64_small (by omega) (by omega)
          have hk0 : (0 : Int) ≤ (k : Int) := by omega
          have hk1 : (k : Int) < (nL : Int) := by omega
          have hq0 : (0 : Int) ≤ x0 / 2 := by omega
          have hq1 : x0 / 2 < (m : Int) + 1 := by omega
          have HN2 := Lib.hid (HT3.out.put (x0 / 2).toNat (2 * ((nI : Int) + k) + 2))
          have hM2 : (numF (C.inputs ++ (C.latches.map (·.1)).take (k + 1)) (0, List.replicate (m + 1) 0)).2 = (numF (C.inputs ++ (C.latches.map (·.1)).take k) (0, List.replicate (m + 1) 0)).2.set (x0 / 2).toNat (2 * ((nI : Int) + k) + 2) := by
            rw [List.take_add_one, hx2]
            have := numF_appH (C.inputs ++ (C.latches.map (·.1)).take k) x0 (m + 1)
            rw [List.length_append, HNI.out, List.length_take, List.length_map, HNL.out, Nat.min_eq_left hk] at this
            simpa [List.append_assoc] using this
          rw [← hM2] at HN2
          clear hx hx2 hcell f1 f2 hy hM2 hlb hbl hWD hlb2
          go_upto_region 10 with (fail)
          refine wp_region_T (by kernel_rfl) (fun w' => w'.cell? ⟨lb2, 0, none⟩ = some (.int .i64 x0)) 12 ?_
          rw [HWD.out, HL2.out]
          have hHeld := HLB.out.cell 0
          simp only [List.getElem?_toArray, List.getElem?_cons_zero] at hHeld
          clear i0 i1 i2
          refine wpAnyT_take (i := 0) (oi := { dst := some 47, op := Op.move (Operand.tmp 7), type := 86, pos := "build.go:32", after := #[], guard := none }) (v := ?v0r10q1) rfl (by kernel_rfl) (fun _ _ _ h => h) (by rfl) hHeld ?h0r10q1 ?_
          case h0r10q1 => (intro w' hSw; (try dsimp only at hSw); go_simp; try with_reducible rfl)
          (try simp only [Act.put, List.setIfInBounds_toArray, List.set_cons_zero, List.set_cons_succ])
          refine wpAnyT_take (i := 1) (oi := { dst := some 48, op := Op.fieldAddr 78 (Operand.tmp 11) 0, type := 0, pos := "build.go:32", after := #[], guard := none }) (v := ?v1r10q1) rfl (by kernel_rfl) (fun _ _ _ h => h) (by rfl) hHeld ?h1r10q1 ?_
          case h1r10q1 => (intro w' hSw; (try dsimp only at hSw); go_simp; try with_reducible rfl)
          (try simp only [Act.put, List.setIfInBounds_toArray, List.set_cons_zero, List.set_cons_succ])
          refine wpAnyT_take (i := 2) (oi := { dst := some 49, op := Op.load 3 (Operand.tmp 48), type := 3, pos := "build.go:32", after := #[{ on := 1, ground := Ground.data }], guard := none }) (v := ?v2r10q1) rfl (by kernel_rfl) (fun _ _ _ h => h) (by rfl) hHeld ?h2r10q1 ?_
          case h2r10q1 => (intro w' hSw; (try dsimp only at hSw); go_simp; try with_reducible rfl)
          (try simp only [Act.put, List.setIfInBounds_toArray, List.set_cons_zero, List.set_cons_succ])
          refine wpAnyT_take (i := 3) (oi := { dst := some 50, op := Op.binOp BinOp.quo 3 (Operand.tmp 49) (Operand.const (Value.int IntKind.i64 2)) 3, type := 3, pos := "build.go:32", after := #[{ on := 2, ground := Ground.data }], guard := none }) (v := ?v3r10q1) rfl (by kernel_rfl) (fun _ _ _ h => h) (by rfl) hHeld ?h3r10q1 ?_
          case h3r10q1 => (intro w' hSw; (try dsimp only at hSw); go_simp; try with_reducible rfl)
          (try simp only [Act.put, List.setIfInBounds_toArray, List.set_cons_zero, List.set_cons_succ])
          refine wpAnyT_take (i := 4) (oi := { dst := some 51, op := Op.move (Operand.tmp 0), type := 83, pos := "build.go:32", after := #[], guard := none }) (v := ?v4r10q1) rfl (by kernel_rfl) (fun _ _ _ h => h) (by rfl) hHeld ?h4r10q1 ?_
          case h4r10q1 => (intro w' hSw; (try dsimp only at hSw); go_simp; try with_reducible rfl)
          (try simp only [Act.put, List.setIfInBounds_toArray, List.set_cons_zero, List.set_cons_succ])
          refine wpAnyT_take (i := 5) (oi := { dst := some 52, op := Op.move (Operand.tmp 10), type := 3, pos := "build.go:32", after := #[], guard := none }) (v := ?v5r10q1) rfl (by kernel_rfl) (fun _ _ _ h => h) (by rfl) hHeld ?h5r10q1 ?_
          case h5r10q1 => (intro w' hSw; (try dsimp only at hSw); go_simp; try with_reducible rfl)
          (try simp only [Act.put, List.setIfInBounds_toArray, List.set_cons_zero, List.set_cons_succ])
          refine wpAnyT_one (i := 6) (o := { dst := some 53, op := Op.call { callee := Callee.value (Operand.func 86), args := #[Operand.tmp 51, Operand.tmp 52], argTypes := #[83, 3] }, type := 66, pos := "build.go:32", after := #[{ on := 4, ground := Ground.data }, { on := 5, ground := Ground.data }], guard := none }) rfl (by kernel_rfl) (fun K hK => ?_)
          go_simp
          go_at_call 86
          refine HLA.out.mono ?_
          rintro e w5 ⟨rfl, hw5⟩
          rw [hw5]
          clear hw5 w5
          refine hK.out _ _ (fun _ => hHeld) ?_
          clear hK K
          refine wpAnyT_take (i := 7) (oi := { dst := some 46, op := Op.move (Operand.tmp 53), type := 66, pos := "build.go:32", after := #[{ on := 6, ground := Ground.data }], guard := none }) (v := ?v7r10q2) rfl (by kernel_rfl) (fun _ _ _ h => h) (by rfl) hHeld ?h7r10q2 ?_
          case h7r10q2 => (intro w' hSw; (try dsimp only at hSw); go_simp; try with_reducible rfl)
          (try simp only [Act.put, List.setIfInBounds_toArray, List.set_cons_zero, List.set_cons_succ])
          refine wpAnyT_take (i := 8) (oi := { dst := some 54, op := Op.extract (Operand.tmp 46) 0, type := 3, pos := "build.go:32", after := #[{ on := 7, ground := Ground.data }], guard := none }) (v := ?v8r10q2) rfl (by kernel_rfl) (fun _ _ _ h => h) (by rfl) hHeld ?h8r10q2 ?_
          case h8r10q2 => (intro w' hSw; (try dsimp only at hSw); go_simp; try with_reducible rfl)
          (try simp only [Act.put, List.setIfInBounds_toArray, List.set_cons_zero, List.set_cons_succ])
          refine wpAnyT_take (i := 9) (oi := { dst := some 55, op := Op.extract (Operand.tmp 46) 1, type := 31, pos := "build.go:32", after := #[{ on := 7, ground := Ground.data }, { on := 11, ground := Ground.gcOnly Departure.lateStores }], guard := none }) (v := ?v9r10q2) rfl (by kernel_rfl) (fun _ _ _ h => h) (by rfl) hHeld ?h9r10q2 ?_
          case h9r10q2 => (intro w' hSw; (try dsimp only at hSw); go_simp; try with_reducible rfl)
          (try simp only [Act.put, List.setIfInBounds_toArray, List.set_cons_zero, List.set_cons_succ])
          refine wpAnyT_take (i := 10) (oi := { dst := some 56, op := Op.indexAddr 86 (Operand.tmp 47) (Operand.tmp 50), type := 0, pos := "build.go:32", after := #[{ on := 0, ground := Ground.data }, { on := 3, ground := Ground.data }, { on := 0, ground := Ground.phase }, { on := 1, ground := Ground.phase }, { on := 2, ground := Ground.phase }, { on := 3, ground := Ground.phase }, { on := 4, ground := Ground.phase }, { on := 5, ground := Ground.phase }, { on := 6, ground := Ground.phase }, { on := 7, ground := Ground.phase }, { on := 8, ground := Ground.phase }, { on := 9, ground := Ground.textOnly Departure.lateStores }], guard := none }) (v := ?v10r10q2) rfl (by kernel_rfl) (fun _ _ _ h => h) (by rfl) hHeld ?h10r10q2 ?_
          case h10r10q2 => (intro w' hSw; (try dsimp only at hSw); go_simp; try with_reducible rfl)
          (try simp only [Act.put, List.setIfInBounds_toArray, List.set_cons_zero, List.set_cons_succ])
          clear hHeld
          refine wpAnyT_one (i := 11) (o := { dst := none, op := Op.store 3 (Operand.tmp 56) (Operand.tmp 54), type := 0, pos := "build.go:32", after := #[{ on := 10, ground := Ground.data }, { on := 8, ground := Ground.data }, { on := 6, ground := Ground.chain }, { on := 0, ground := Ground.phase }, { on := 1, ground := Ground.phase }, { on := 2, ground := Ground.phase }, { on := 3, ground := Ground.phase }, { on := 4, ground := Ground.phase }, { on := 5, ground := Ground.phase }, { on := 6, ground := Ground.phase }, { on := 7, ground := Ground.phase }, { on := 8, ground := Ground.phase }, { on := 9, ground := Ground.textOnly Departure.lateStores }], guard := none }) rfl (by kernel_rfl) (fun K hK => ?_)
          go_simp
          refine hK.out _ _ (fun _ => (HLB.out.far HGL.out _).cell 0) ?_
          clear hK K
          (try simp only [Act.put, List.setIfInBounds_toArray, List.set_cons_zero, List.set_cons_succ])
          refine wpAnyT_done (by kernel_rfl) ?_
          go_wp2
          go_roundg (nL - (k + 1))
          case measure => omega
          case rel => exact ⟨k + 1, by omega, rfl, by go_num, HN2.out⟩
        · have hke : nL = k := by omega
          have HE2 : Hid (TL w0 wr cb g bx CS (bd0 C) (mapL C)) := Lib.hid (by
            have := HT.out
            rw [List.take_of_length_le (by rw [List.length_map, HNL.out, hke]; exact Nat.le_refl _)] at this
            unfold mapL
            rw [HMM.out]
            exact this)
          have hk1 : ¬ (k : Int) < (nL : Int) := by omega
          clear HT hke
          go_wp2
          clear c0 c1 c2 c8
          go_loopg [60] nA (fun j iv wx => ∃ k : Nat, k ≤ nA ∧ j = nA - k ∧ iv = .int .i64 k ∧ TL w0 wx cb g bx CS (tellG C (O.take k)).1 (tellG C (O.take k)).2)
          case atStart => exact ⟨0, Nat.zero_le _, rfl, rfl, HE2.out⟩
          case round =>
            obtain ⟨k, hk, hgk, rfl, ht⟩ := hrel
            subst hgk
            by_cases hlt : k < nA
            · have hTI := tellG_i HF.out HO.out k (by rw [HLO.out]; exact hk)
              obtain ⟨gi, hgi⟩ : ∃ x, O[k]? = some x := ⟨_, List.getElem?_eq_getElem (by rw [HLO.out]; exact hlt)⟩
              have hgr := HO.out.inR gi (List.mem_of_getElem? hgi)
              rw [HNA.out] at hgr
              have hst : tellG C (O.take (k + 1)) = tell1 C (tellG C (O.take k)) gi := by rw [List.take_add_one, hgi]; exact tellG_snoc C (O.take k) gi
              obtain ⟨s, hs⟩ : ∃ s, tellG C (O.take k) = s := ⟨_, rfl⟩
              rw [hs] at ht hTI hst
              obtain ⟨b, M⟩ := s
              simp only at ht
              have HT := Lib.hid ht
              have HST := Lib.hid hst
              have hok := hTI.ok
              have hhas := hTI.has
              have hML := hTI.len
              simp only at hok hhas hML
              rw [HMM.out, show ((m : Int)).toNat = m by omega] at hML
              clear ht HE2 hTI hst hs
              obtain ⟨c0, c1, c2, c8⟩ := HCELL.out _ HT.out.box
              obtain ⟨ob, ooff, e, hob, hocell⟩ := HRG.out k gi hgi
              subst e
              have o0 := (HT.out.below.cell (p := ⟨ob, ooff + (k * 1 + 0), none⟩) hob).trans (hocell 0 _ rfl)
              simp only [Nat.mul_one, Nat.add_zero] at o0
              obtain ⟨gn, rfl⟩ : ∃ gn : Nat, gi = (gn : Int) := ⟨gi.toNat, by omega⟩
              obtain ⟨x, hx⟩ : ∃ x, C.ands[gn]? = some x := ⟨_, List.getElem?_eq_getElem (by rw [HNA.out]; omega)⟩
              obtain ⟨lb, off, e, hlb, hcell⟩ := HRA.out gn x hx
              subst e
              obtain ⟨⟨p1, p2⟩, ⟨q1, q2⟩, ⟨r1, r2⟩⟩ := HR.out.a x (List.mem_of_getElem? hx)
              rw [HMM.out] at p2 q2 r2
              obtain ⟨x0, x1, x2⟩ := x
              simp only at p1 p2 q1 q2 r1 r2
              have i0 := (HT.out.below.cell (p := ⟨lb, off + (gn * 3 + 0), none⟩) hlb).trans (hcell 0 _ rfl)
              have i1 := (HT.out.below.cell (p := ⟨lb, off + (gn * 3 + 1), none⟩) hlb).trans (hcell 1 _ rfl)
              have i2 := (HT.out.below.cell (p := ⟨lb, off + (gn * 3 + 2), none⟩) hlb).trans (hcell 2 _ rfl)
              simp only [Nat.add_zero, ← Nat.add_assoc] at i0 i1 i2
              have hgD : C.ands.getD ((gn : Int)).toNat (0, 0, 0) = (x0, x1, x2) := by simp [List.getD, hx]
              have hbl : Below wr.heap.size wr ((wr.alloc (.cells #[.int .i64 x0, .int .i64 x1, .int .i64 x2] 80)).drew) := ((Below.refl _ _).alloc (Nat.le_refl _) _).drew
              have HLB : Hid (Blk ((wr.alloc (.cells #[.int .i64 x0, .int .i64 x1, .int .i64 x2] 80)).drew) wr.heap.size 80 #[.int .i64 x0, .int .i64 x1, .int .i64 x2]) := Lib.hid ((Blk.new wr 80 #[.int .i64 x0, .int .i64 x1, .int .i64 x2]).drew)
              have HGL : Hid (wr.heap.size ≠ g) := Lib.hid (by have := Blk.lt HT.out.nums; omega)
              obtain ⟨F1, f1, f2⟩ := HT.out.bld
              have HFL : Hid (¬ F1 wr.heap.size) := Lib.hid (fun hh => by have := f1.lt hh; omega)
              have f3 := f1.below hbl
              obtain ⟨WD, hWD⟩ : ∃ WD, (wr.alloc (.cells #[.int .i64 x0, .int .i64 x1, .int .i64 x2] 80)).drew = WD := ⟨_, rfl⟩
              rw [hWD] at hbl HLB f3
              have HWD := Lib.hid hWD
              have HT3 := Lib.hid (HT.out.on hbl)
              have HF2 := Lib.hid f2
              obtain ⟨lb2, hlb2⟩ : ∃ z, wr.heap.size = z := ⟨_, rfl⟩
              rw [hlb2] at HLB HGL HFL
              have HL2 := Lib.hid hlb2
              have hmk2 := map_ok hok hhas
              have HOF1 := Lib.hid (of_any WD g (m + 1) M x1 HT3.out.nums hML hmk2 q1 (by push_cast; omega) (by omega))
              have HOF2 := Lib.hid (of_any WD g (m + 1) M x2 HT3.out.nums hML hmk2 r1 (by push_cast; omega) (by omega))
              have hv1 := mvX_rng hmk2 x1
              have hv2 := mvX_rng hmk2 x2
              have HAND := Lib.hid (hAnd_any WD bx b F1 (mvX M x1) (mvX M x2) f3 (by unfold I64; omega) (by unfold I64; omega))
              have hAA : b.And (mvX M x1) (mvX M x2) = b.and_ (mvX M x1) (mvX M x2) := by unfold Bd.And; rw [if_pos ⟨mvX_has hhas x1, mvX_has hhas x2⟩]
              have HSTEP : Hid (tellG C (O.take (k + 1)) = ((b.And (mvX M x1) (mvX M x2)).2, M.set (x0 / 2).toNat (b.And (mvX M x1) (mvX M x2)).1.1)) := Lib.hid (by
                rw [HST.out, hAA]
                unfold tell1 outG
                rw [hgD])
              obtain ⟨y1, hy1⟩ : ∃ y, mvX M x1 = y := ⟨_, rfl⟩
              obtain ⟨y2, hy2⟩ : ∃ y, mvX M x2 = y := ⟨_, rfl⟩
              rw [hy1] at HOF1 HAND HSTEP
              rw [hy2] at HOF2 HAND HSTEP
              obtain ⟨⟨⟨z, e0⟩, b2⟩, hR⟩ : ∃ r, b.And y1 y2 = r := ⟨_, rfl⟩
              rw [hR] at HAND HSTEP
              simp only at HAND HSTEP
              have HY : Hid (∃ y, M[(x0 / 2).toNat]? = some y) := Lib.hid ⟨_, List.getElem?_eq_getElem (by rw [hML]; omega)⟩
              have hq := tdiv_nn (a := x0) (b := 2) (by omega)
              have hqw : IntKind.i64.wrap (x0 / 2) = x0 / 2 := i64_small (by omega) (by omega)
              have hk0 : (0 : Int) ≤ (k : Int) := by omega
              have hk1 : (k : Int) < (nA : Int) := by omega
              have hg0 : (0 : Int) ≤ (gn : Int) := by omega
              have hg1 : (gn : Int) < (nA : Int) := by omega
              have hq0 : (0 : Int) ≤ x0 / 2 := by omega
              have hq1 : x0 / 2 < (m : Int) + 1 := by omega
              clear hx hcell hlb hbl hWD hlb2 f1 f2 f3 hgi hgr hok hhas hML hocell hob hgD hmk2 hv1 hv2 hAA hy1 hy2 hR
              go_upto_region 16 with (fail)
              refine wp_region_T (by kernel_rfl) (fun w' => w'.cell? ⟨lb2, 0, none⟩ = some (.int .i64 x0) ∧ w'.cell? ⟨lb2, 1, none⟩ = some (.int .i64 x1) ∧ w'.cell? ⟨lb2, 2, none⟩ = some (.int .i64 x2)) 19 ?_
              rw [HWD.out, HL2.out]
              have hHeld : WD.cell? ⟨lb2, 0, none⟩ = some (.int .i64 x0) ∧ WD.cell? ⟨lb2, 1, none⟩ = some (.int .i64 x1) ∧ WD.cell? ⟨lb2, 2, none⟩ = some (.int .i64 x2) := ⟨HLB.out.cell 0, HLB.out.cell 1, HLB.out.cell 2⟩
              clear i0 i1 i2 c0 c1 c2 c8 o0
              refine wpAnyT_take (i := 0) (oi := { dst := some 70, op := Op.move (Operand.tmp 7), type := 86, pos := "build.go:36", after := #[], guard := none }) (v := ?v0r16q3) rfl (by kernel_rfl) (fun _ _ _ h => h) (by rfl) hHeld ?h0r16q3 ?_
              case h0r16q3 => (intro w' hSw; (try dsimp only at hSw); go_simp; try with_reducible rfl)
              (try simp only [Act.put, List.setIfInBounds_toArray, List.set_cons_zero, List.set_cons_succ])
              refine wpAnyT_take (i := 1) (oi := { dst := some 71, op := Op.fieldAddr 80 (Operand.tmp 14) 0, type := 0, pos := "build.go:36", after := #[], guard := none }) (v := ?v1r16q3) rfl (by kernel_rfl) (fun _ _ _ h => h) (by rfl) hHeld ?h1r16q3 ?_
              case h1r16q3 => (intro w' hSw; (try dsimp only at hSw); go_simp; try with_reducible rfl)
              (try simp only [Act.put, List.setIfInBounds_toArray, List.set_cons_zero, List.set_cons_succ])
              refine wpAnyT_take (i := 2) (oi := { dst := some 72, op := Op.load 3 (Operand.tmp 71), type := 3, pos := "build.go:36", after := #[{ on := 1, ground := Ground.data }], guard := none }) (v := ?v2r16q3) rfl (by kernel_rfl) (fun _ _ _ h => h) (by rfl) hHeld ?h2r16q3 ?_
              case h2r16q3 => (intro w' hSw; (try dsimp only at hSw); go_simp; try with_reducible rfl)
              (try simp only [Act.put, List.setIfInBounds_toArray, List.set_cons_zero, List.set_cons_succ])
              refine wpAnyT_take (i := 3) (oi := { dst := some 73, op := Op.binOp BinOp.quo 3 (Operand.tmp 72) (Operand.const (Value.int IntKind.i64 2)) 3, type := 3, pos := "build.go:36", after := #[{ on := 2, ground := Ground.data }], guard := none }) (v := ?v3r16q3) rfl (by kernel_rfl) (fun _ _ _ h => h) (by rfl) hHeld ?h3r16q3 ?_
              case h3r16q3 => (intro w' hSw; (try dsimp only at hSw); go_simp; try with_reducible rfl)
              (try simp only [Act.put, List.setIfInBounds_toArray, List.set_cons_zero, List.set_cons_succ])
              refine wpAnyT_take (i := 4) (oi := { dst := some 74, op := Op.move (Operand.tmp 0), type := 83, pos := "build.go:36", after := #[], guard := none }) (v := ?v4r16q3) rfl (by kernel_rfl) (fun _ _ _ h => h) (by rfl) hHeld ?h4r16q3 ?_
              case h4r16q3 => (intro w' hSw; (try dsimp only at hSw); go_simp; try with_reducible rfl)
              (try simp only [Act.put, List.setIfInBounds_toArray, List.set_cons_zero, List.set_cons_succ])
              refine wpAnyT_take (i := 5) (oi := { dst := some 75, op := Op.move (Operand.tmp 7), type := 86, pos := "build.go:36", after := #[], guard := none }) (v := ?v5r16q3) rfl (by kernel_rfl) (fun _ _ _ h => h) (by rfl) hHeld ?h5r16q3 ?_
              case h5r16q3 => (intro w' hSw; (try dsimp only at hSw); go_simp; try with_reducible rfl)
              (try simp only [Act.put, List.setIfInBounds_toArray, List.set_cons_zero, List.set_cons_succ])
              refine wpAnyT_take (i := 6) (oi := { dst := some 76, op := Op.fieldAddr 80 (Operand.tmp 14) 1, type := 0, pos := "build.go:36", after := #[], guard := none }) (v := ?v6r16q3) rfl (by kernel_rfl) (fun _ _ _ h => h) (by rfl) hHeld ?h6r16q3 ?_
              case h6r16q3 => (intro w' hSw; (try dsimp only at hSw); go_simp; try with_reducible rfl)
              (try simp only [Act.put, List.setIfInBounds_toArray, List.set_cons_zero, List.set_cons_succ])
              refine wpAnyT_take (i := 7) (oi := { dst := some 77, op := Op.load 3 (Operand.tmp 76), type := 3, pos := "build.go:36", after := #[{ on := 6, ground := Ground.data }], guard := none }) (v := ?v7r16q3) rfl (by kernel_rfl) (fun _ _ _ h => h) (by rfl) hHeld ?h7r16q3 ?_
              case h7r16q3 => (intro w' hSw; (try dsimp only at hSw); go_simp; try with_reducible rfl)
              (try simp only [Act.put, List.setIfInBounds_toArray, List.set_cons_zero, List.set_cons_succ])
              refine wpAnyT_take (i := 9) (oi := { dst := some 79, op := Op.move (Operand.tmp 7), type := 86, pos := "build.go:36", after := #[], guard := none }) (v := ?v9r16q4) rfl (by kernel_rfl) (fun _ _ _ h => h) (by rfl) hHeld ?h9r16q4 ?_
              case h9r16q4 => (intro w' hSw; (try dsimp only at hSw); go_simp; try with_reducible rfl)
              (try simp only [Act.put, List.setIfInBounds_toArray, List.set_cons_zero, List.set_cons_succ])
              refine wpAnyT_take (i := 10) (oi := { dst := some 80, op := Op.fieldAddr 80 (Operand.tmp 14) 2, type := 0, pos := "build.go:36", after := #[], guard := none }) (v := ?v10r16q4) rfl (by kernel_rfl) (fun _ _ _ h => h) (by rfl) hHeld ?h10r16q4 ?_
              case h10r16q4 => (intro w' hSw; (try dsimp only at hSw); go_simp; try with_reducible rfl)
              (try simp only [Act.put, List.setIfInBounds_toArray, List.set_cons_zero, List.set_cons_succ])
              refine wpAnyT_take (i := 11) (oi := { dst := some 81, op := Op.load 3 (Operand.tmp 80), type := 3, pos := "build.go:36", after := #[{ on := 10, ground := Ground.data }], guard := none }) (v := ?v11r16q4) rfl (by kernel_rfl) (fun _ _ _ h => h) (by rfl) hHeld ?h11r16q4 ?_
              case h11r16q4 => (intro w' hSw; (try dsimp only at hSw); go_simp; try with_reducible rfl)
              (try simp only [Act.put, List.setIfInBounds_toArray, List.set_cons_zero, List.set_cons_succ])
              refine wpAnyT_one (i := 8) (o := { dst := some 78, op := Op.call { callee := Callee.value (Operand.func 87), args := #[Operand.tmp 75, Operand.tmp 77], argTypes := #[86, 3] }, type := 3, pos := "build.go:36", after := #[{ on := 5, ground := Ground.data }, { on := 7, ground := Ground.data }], guard := none }) rfl (by kernel_rfl) (fun K hK => ?_)
              go_simp
              go_at_call 87
              refine HOF1.out.mono ?_
              rintro e w5 ⟨rfl, hw5⟩
              rw [hw5]
              clear hw5 w5
              refine hK.out _ _ (fun _ => hHeld) ?_
              clear hK K
              (try simp only [Act.put, List.setIfInBounds_toArray, List.set_cons_zero, List.set_cons_succ])
              refine wpAnyT_one (i := 12) (o := { dst := some 82, op := Op.call { callee := Callee.value (Operand.func 87), args := #[Operand.tmp 79, Operand.tmp 81], argTypes := #[86, 3] }, type := 3, pos := "build.go:36", after := #[{ on := 9, ground := Ground.data }, { on := 11, ground := Ground.data }, { on := 8, ground := Ground.chain }], guard := none }) rfl (by kernel_rfl) (fun K hK => ?_)
              go_simp
              go_at_call 87
              refine HOF2.out.mono ?_
              rintro e w5 ⟨rfl, hw5⟩
              rw [hw5]
              clear hw5 w5
              refine hK.out _ _ (fun _ => hHeld) ?_
              clear hK K hHeld
              (try simp only [Act.put, List.setIfInBounds_toArray, List.set_cons_zero, List.set_cons_succ])
              refine wpAnyT_one (i := 13) (o := { dst := some 83, op := Op.call { callee := Callee.value (Operand.func 46), args := #[Operand.tmp 74, Operand.tmp 78, Operand.tmp 82], argTypes := #[83, 3, 3] }, type := 66, pos := "build.go:36", after := #[{ on := 4, ground := Ground.data }, { on := 8, ground := Ground.data }, { on := 12, ground := Ground.data }, { on := 12, ground := Ground.chain }], guard := none }) rfl (by kernel_rfl) (fun K hK => ?_)
              go_simp
              go_at_call 46
              refine HAND.out.mono ?_
              rintro e w2 ⟨rfl, hd⟩
              have HT4 := Lib.hid (HT3.out.did HF2.out hd)
              have HLB4 : Hid (Blk w2 lb2 80 #[.int .i64 x0, .int .i64 x1, .int .i64 x2]) := Lib.hid (by
                obtain ⟨F', k1, k2, k3⟩ := hd
                exact k2.blk HLB.out HFL.out)
              have hHeld : w2.cell? ⟨lb2, 0, none⟩ = some (.int .i64 x0) ∧ w2.cell? ⟨lb2, 1, none⟩ = some (.int .i64 x1) ∧ w2.cell? ⟨lb2, 2, none⟩ = some (.int .i64 x2) := ⟨HLB4.out.cell 0, HLB4.out.cell 1, HLB4.out.cell 2⟩
              obtain ⟨y, hy⟩ := HY.out
              have cm := Nums.cell HT4.out.nums hy
              have fm := Blk.frozen HT4.out.nums (x0 / 2).toNat
              have lm := Blk.lt HT4.out.nums
              clear hy hd
              refine hK.out _ _ (fun _ => hHeld) ?_
              clear hK K
              (try simp only [Act.put, List.setIfInBounds_toArray, List.set_cons_zero, List.set_cons_succ])
              refine wpAnyT_take (i := 14) (oi := { dst := some 69, op := Op.move (Operand.tmp 83), type := 66, pos := "build.go:36", after := #[{ on := 13, ground := Ground.data }], guard := none }) (v := ?v14r16q5) rfl (by kernel_rfl) (fun _ _ _ h => h) (by rfl) hHeld ?h14r16q5 ?_
              case h14r16q5 => (intro w' hSw; (try dsimp only at hSw); go_simp; try with_reducible rfl)
              (try simp only [Act.put, List.setIfInBounds_toArray, List.set_cons_zero, List.set_cons_succ])
              refine wpAnyT_take (i := 15) (oi := { dst := some 84, op := Op.extract (Operand.tmp 69) 0, type := 3, pos := "build.go:36", after := #[{ on := 14, ground := Ground.data }], guard := none }) (v := ?v15r16q5) rfl (by kernel_rfl) (fun _ _ _ h => h) (by rfl) hHeld ?h15r16q5 ?_
              case h15r16q5 => (intro w' hSw; (try dsimp only at hSw); go_simp; try with_reducible rfl)
              (try simp only [Act.put, List.setIfInBounds_toArray, List.set_cons_zero, List.set_cons_succ])
              refine wpAnyT_take (i := 16) (oi := { dst := some 85, op := Op.extract (Operand.tmp 69) 1, type := 31, pos := "build.go:36", after := #[{ on := 14, ground := Ground.data }, { on := 18, ground := Ground.gcOnly Departure.lateStores }], guard := none }) (v := ?v16r16q5) rfl (by kernel_rfl) (fun _ _ _ h => h) (by rfl) hHeld ?h16r16q5 ?_
              case h16r16q5 => (intro w' hSw; (try dsimp only at hSw); go_simp; try with_reducible rfl)
              (try simp only [Act.put, List.setIfInBounds_toArray, List.set_cons_zero, List.set_cons_succ])
              refine wpAnyT_take (i := 17) (oi := { dst := some 86, op := Op.indexAddr 86 (Operand.tmp 70) (Operand.tmp 73), type := 0, pos := "build.go:36", after := #[{ on := 0, ground := Ground.data }, { on := 3, ground := Ground.data }, { on := 0, ground := Ground.phase }, { on := 1, ground := Ground.phase }, { on := 2, ground := Ground.phase }, { on := 3, ground := Ground.phase }, { on := 4, ground := Ground.phase }, { on := 5, ground := Ground.phase }, { on := 6, ground := Ground.phase }, { on := 7, ground := Ground.phase }, { on := 8, ground := Ground.phase }, { on := 9, ground := Ground.phase }, { on := 10, ground := Ground.phase }, { on := 11, ground := Ground.phase }, { on := 12, ground := Ground.phase }, { on := 13, ground := Ground.phase }, { on := 14, ground := Ground.phase }, { on := 15, ground := Ground.phase }, { on := 16, ground := Ground.textOnly Departure.lateStores }], guard := none }) (v := ?v17r16q5) rfl (by kernel_rfl) (fun _ _ _ h => h) (by rfl) hHeld ?h17r16q5 ?_
              case h17r16q5 => (intro w' hSw; (try dsimp only at hSw); go_simp; try with_reducible rfl)
              (try simp only [Act.put, List.setIfInBounds_toArray, List.set_cons_zero, List.set_cons_succ])
              clear hHeld
              refine wpAnyT_one (i := 18) (o := { dst := none, op := Op.store 3 (Operand.tmp 86) (Operand.tmp 84), type := 0, pos := "build.go:36", after := #[{ on := 17, ground := Ground.data }, { on := 15, ground := Ground.data }, { on := 13, ground := Ground.chain }, { on := 0, ground := Ground.phase }, { on := 1, ground := Ground.phase }, { on := 2, ground := Ground.phase }, { on := 3, ground := Ground.phase }, { on := 4, ground := Ground.phase }, { on := 5, ground := Ground.phase }, { on := 6, ground := Ground.phase }, { on := 7, ground := Ground.phase }, { on := 8, ground := Ground.phase }, { on := 9, ground := Ground.phase }, { on := 10, ground := Ground.phase }, { on := 11, ground := Ground.phase }, { on := 12, ground := Ground.phase }, { on := 13, ground := Ground.phase }, { on := 14, ground := Ground.phase }, { on := 15, ground := Ground.phase }, { on := 16, ground := Ground.textOnly Departure.lateStores }], guard := none }) rfl (by kernel_rfl) (fun K hK => ?_)
              go_simp
              refine hK.out _ _ (fun _ => ⟨(HLB4.out.far HGL.out _).cell 0, (HLB4.out.far HGL.out _).cell 1, (HLB4.out.far HGL.out _).cell 2⟩) ?_
              clear hK K
              (try simp only [Act.put, List.setIfInBounds_toArray, List.set_cons_zero, List.set_cons_succ])
              refine wpAnyT_done (by kernel_rfl) ?_
              have HN2 := Lib.hid (HT4.out.put (x0 / 2).toNat z)
              go_wp2
              go_roundg (nA - (k + 1))
              case measure => omega
              case rel => exact ⟨k + 1, by omega, rfl, by go_num, by rw [HSTEP.out]; exact HN2.out⟩
            · have hke : nA = k := by omega
              have HE3 : Hid (TL w0 wr cb g bx CS (bldB C O) (bldM C O)) := Lib.hid (by
                have := ht
                rwa [List.take_of_length_le (by rw [HLO.out, hke]; exact Nat.le_refl _)] at this)
              have hk1 : ¬ (k : Int) < (nA : Int) := by omega
              clear ht hke
              go_wp2
              go_ret
              first | exact ⟨g, cb, rfl, HE3.out⟩ | exact ⟨g, rfl, cb, HE3.out⟩ | exact ⟨g, rfl, ⟨cb, HE3.out⟩⟩
end Go.Proofs.Ytilbgopdciiadaa
