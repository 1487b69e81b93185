/- Hash: the contracts of of and all: what literals have become. -/
import Derived.Test.YtahjmkdpnkffhaaHshC
namespace Go.Proofs.Ytahjmkdpnkffhaa
open Go.RowKit Go.Maps

theorem xor_zero {x : Int} (h : I64 x) : bits .xor .i64 x 0 = x := by
  unfold I64 at h
  have g1 : (BitVec.ofInt 64 x).toNat = (x % 18446744073709551616).toNat := by rw [BitVec.toNat_ofInt]; rfl
  have g2 : (BitVec.ofInt 64 (0 : Int)).toNat = 0 := by decide
  show IntKind.i64.wrap ((BitVec.ofInt 64 x ^^^ BitVec.ofInt 64 (0 : Int)).toNat : Int) = _
  rw [BitVec.toNat_xor, g1, g2, Nat.xor_zero]
  simp [IntKind.wrap, IntKind.bits, IntKind.signed]; omega
/-- A map of literals: all from 0 to the greatest. -/
def MapOk (M : List Int) : Prop := ∀ v, 0 ≤ M.getD v 0 ∧ M.getD v 0 ≤ 32769
theorem mvX_rng {M : List Int} (h : MapOk M) (l : Int) : 0 ≤ mvX M l ∧ mvX M l ≤ 32769 := by
  have := h (l / 2).toNat
  unfold mvX neg
  split
  · exact this
  · split <;> omega
set_option maxHeartbeats 2000000 in
set_option maxRecDepth 100000 in
theorem of_any (w : World) (g n : Nat) (M : List Int) (l : Int) (h : Nums w g M) (hM : M.length = n) (hk : MapOk M) (h0 : 0 ≤ l) (h1 : l / 2 < (n : Int)) (hn : n ≤ 1000000) :
    Calls Try.prog 139 #[.slice (some ⟨g, 0, none⟩) n n, .int .i64 l] w fun e w' => e = .returned (.int .i64 (mvX M l)) ∧ w' = w := by
  obtain ⟨q, hq⟩ : ∃ q : Nat, l / 2 = (q : Int) := ⟨(l / 2).toNat, by omega⟩
  have hqn : q < n := by omega
  have hq2 : l.tdiv 2 = (q : Int) := by rw [tdiv_nn h0, hq]
  have hr2 : l.tmod 2 = l % 2 := Int.tmod_eq_emod_of_nonneg h0
  have hqw : IntKind.i64.wrap (q : Int) = (q : Int) := by simp [IntKind.wrap, IntKind.bits, IntKind.signed]; omega
  have hqi : (q : Int) < (n : Int) := by omega
  have hqi0 : (0 : Int) ≤ (q : Int) := by omega
  obtain ⟨x, hx⟩ : ∃ x, M.getD q 0 = x := ⟨_, rfl⟩
  have k0 := Nums.cell h (getD_int (show q < M.length by rw [hM]; exact hqn))
  rw [hx] at k0
  have hxr := hk q
  rw [hx] at hxr
  have hv : mvX M l = if l % 2 = 0 then x else neg x := by unfold mvX; rw [hq, Int.toNat_natCast, hx]
  rw [hv]
  have x0 := xor_zero (x := x) (by unfold I64; omega)
  have x1 := xor_neg (x := x) (by unfold I64; omega)
  have hm : l % 2 = 0 ∨ l % 2 = 1 := by omega
  obtain ⟨r, hr⟩ : ∃ r, l % 2 = r := ⟨_, rfl⟩
  rw [hr] at hr2 hm ⊢
  have hrw : IntKind.i64.wrap r = r := by rcases hm with e | e <;> (subst e; rfl)
  obtain ⟨nx, hnx⟩ : ∃ z, neg x = z := ⟨_, rfl⟩
  rw [hnx] at x1 ⊢
  clear h hM hk hx hv hr h0 h1 hq hnx
  rcases hm with e | e
  · subst e
    rw [if_pos rfl]
    go_enter Try.func139, Try.ntmps139
    go_wp2
    go_ret
    exact ⟨rfl, rfl⟩
  · subst e
    rw [if_neg (by decide)]
    go_enter Try.func139, Try.ntmps139
    go_wp2
    go_ret
    exact ⟨rfl, rfl⟩

set_option maxHeartbeats 4000000 in
set_option maxRecDepth 100000 in
theorem all_any (w : World) (g n : Nat) (M : List Int) (v : Value) (L : List Int) (h : Nums w g M) (hM : M.length = n) (hk : MapOk M) (hn : n ≤ 1000000) (hL : RowE 1 encI w v L) (hl : L.length ≤ 16384) (hr : ∀ l ∈ L, 0 ≤ l ∧ l / 2 < (n : Int)) :
    Calls Try.prog 141 #[.slice (some ⟨g, 0, none⟩) n n, v] w fun e w' => Below w.heap.size w w' ∧ ∃ g2, e = .returned (.slice (some ⟨g2, 0, none⟩) L.length L.length) ∧ w.heap.size ≤ g2 ∧ Nums w' g2 (L.map (mvX M)) := by
  obtain ⟨A, c, rfl, _, hm, hrun⟩ := hL
  obtain ⟨k, hkk⟩ : ∃ k, L.length = k := ⟨_, rfl⟩
  have HRUN := Lib.hid hrun
  have HR := Lib.hid hr
  have HK := Lib.hid hkk
  have HOF := Lib.hid (fun (wx : World) (l : Int) (hb : Below w.heap.size w wx) (h0 : 0 ≤ l) (h1 : l / 2 < (n : Int)) => of_any wx g n M l (Blk.below h hb (Blk.lt h)) hM hk h0 h1 hn)
  rw [hkk] at hl ⊢
  have hmk := make_ints k (by omega)
  have HN : Hid ((L.map (mvX M)).length = k) := Lib.hid (by rw [List.length_map]; exact hkk)
  have HS0 : Hid (Nums (w.alloc (.cells (madeCells #[Value.int .i64 0] k) 3)) w.heap.size (List.replicate k 0) ∧ Below w.heap.size w (w.alloc (.cells (madeCells #[Value.int .i64 0] k) 3))) := by
    refine Lib.hid ⟨?_, (Below.refl _ _).alloc (Nat.le_refl _) _⟩
    unfold Nums
    rw [← made_ints]
    exact Blk.new w 3 _
  have HMP := Lib.hid (fun (i : Nat) (l : Int) (hi : L[i]? = some l) => (show (L.map (mvX M))[i]? = some (mvX M l) from by rw [List.getElem?_map, hi]; rfl))
  generalize L.map (mvX M) = N at *
  clear hrun hr hkk h hM hk hm
  go_enter Try.func141, Try.ntmps141
  go_wp2
  go_loopg [13] k (fun j iv wx => ∃ q : Nat, q ≤ k ∧ j = k - q ∧ iv = .int .i64 q ∧ Below w.heap.size w wx ∧ Nums wx w.heap.size (N.take q ++ List.replicate (k - q) 0))
  case atStart => exact ⟨0, Nat.zero_le _, rfl, rfl, HS0.out.2, HS0.out.1⟩
  case round =>
    obtain ⟨q, hq, hgk, rfl, hbw, hnu⟩ := hrel
    subst hgk
    clear HS0
    have HBW := Lib.hid hbw
    have HNU := Lib.hid hnu
    by_cases hlt : q < k
    · obtain ⟨l, hx⟩ : ∃ x, L[q]? = some x := ⟨_, List.getElem?_eq_getElem (by rw [HK.out]; exact hlt)⟩
      obtain ⟨b, off, e, hb, hcell⟩ := HRUN.out q l hx
      subst e
      have k0 := (hbw.cell (p := ⟨b, off + (q * 1 + 0), none⟩) hb).trans (hcell 0 _ rfl)
      simp only [Nat.mul_one, Nat.add_zero] at k0
      obtain ⟨l0, l1⟩ := HR.out l (List.mem_of_getElem? hx)
      have hof := HOF.out wr l hbw l0 l1
      have HNX := Lib.hid (HMP.out q l hx)
      obtain ⟨z, hz⟩ : ∃ z, mvX M l = z := ⟨_, rfl⟩
      rw [hz] at hof HNX
      have HOL := Lib.hid hof
      have htl : q < (N.take q ++ List.replicate (k - q) 0).length := by rw [fill3_len HN.out hq]; exact hlt
      have hold := Nums.cell hnu (getD_int htl)
      have hfr := Blk.frozen hnu q
      have hgb := Blk.lt hnu
      have hqi : (q : Int) < (k : Int) := by omega
      have hqi0 : (0 : Int) ≤ (q : Int) := by omega
      clear hcell hx hof htl hnu hbw hz
      go_wp2_with (go_at_call 139; refine HOL.out.mono ?_; rintro e w5 ⟨rfl, hw5⟩; rw [hw5]; clear hw5 w5)
      go_roundg (k - (q + 1))
      case measure => omega
      case rel =>
        refine ⟨q + 1, by omega, rfl, by go_num, HBW.out.setCell (by simp) _, ?_⟩
        rw [← fill3_set HN.out HNX.out]
        exact Nums.set_ HNU.out q z
    · have hqe : q = k := by omega
      have HF : Hid (Nums wr w.heap.size N) := Lib.hid (by have := hnu; rw [hqe, fill3_end HN.out] at this; exact this)
      have hqi : ¬ (q : Int) < (k : Int) := by omega
      clear hnu hbw
      go_wp2
      go_ret
      first | exact ⟨HBW.out, _, rfl, Nat.le_refl _, HF.out⟩ | exact ⟨HBW.out, w.heap.size, rfl, Nat.le_refl _, HF.out⟩
end Go.Proofs.Ytahjmkdpnkffhaa
