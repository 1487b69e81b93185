/- The program's pack and check, Pack and Unpack. -/
import Derived.Test.YthchemgkfjmhjaaUnpack
namespace Go.Proofs.Ythchemgkfjmhjaa
open Go.RowKit

/-- The first k words of a row. -/
def wpart (bs : List Bool) (k i : Nat) : Nat := if i < k then nb (fun j => bit bs (64 * i + j)) 64 else 0
theorem wpart_step (bs : List Bool) (k i : Nat) : (if i = k then nb (fun j => bit bs (64 * k + j)) 64 else wpart bs k i) = wpart bs (k + 1) i := by
  unfold wpart
  by_cases h : i = k
  · subst h; rw [if_pos rfl, if_pos (by omega)]
  · rw [if_neg h]
    by_cases h2 : i < k
    · rw [if_pos h2, if_pos (by omega)]
    · rw [if_neg h2, if_neg (by omega)]
theorem nb_piece (bs : List Bool) (l m : Nat) (hm : m = min (l + 64) bs.length) : nb (bit ((bs.take m).drop l)) ((bs.take m).drop l).length = nb (fun j => bit bs (l + j)) 64 := by
  have e : ((bs.take m).drop l).length = m - l := by rw [List.length_drop, List.length_take]; omega
  have hb : ∀ j, j < m - l → bit ((bs.take m).drop l) j = bit bs (l + j) := fun j hj => by
    unfold bit
    rw [List.getD, List.getD, List.getElem?_drop, List.getElem?_take, if_pos (by omega)]
  rw [e, nb_congr hb]
  symm
  refine nb_cut (by omega) fun j h1 h2 => ?_
  unfold bit
  rw [List.getD, List.getElem?_eq_none (by omega)]; rfl

theorem map_piece (bs : List Bool) (l m : Nat) : ((bls bs).take m).drop l = bls ((bs.take m).drop l) := by simp

set_option maxHeartbeats 2000000 in
set_option maxRecDepth 100000 in
theorem pack_any (w : World) (v : Value) (bs : List Bool) (h : Row w v (bls bs)) (hn : bs.length ≤ 16384) :
    Calls Try.prog 35 #[v] w fun e w' => ∃ v', e = .returned v' ∧ Below w.heap.size w w' ∧ w'.ownsRow w.heap.size 32 1 v' (packL bs).length (wds (packL bs)) := by
  obtain ⟨A, c, rfl, h1, h2, h3⟩ := h
  rw [List.length_map] at h1 ⊢
  have HC := Lib.hid h3
  have hpl := packL_len bs
  have hpe : mkw ((bs.length + 63) / 64) (wpart bs ((bs.length + 63) / 64)) = packL bs := mkw_congr fun i hi => by unfold wpart; rw [if_pos hi]
  have hwo := fun wx => wordsOf_any bs.length wx (by omega)
  generalize hL : (bs.length + 63) / 64 = L at hpl hpe hwo
  have hL2 : (L : Int) ≤ 256 := by omega
  have hmk := fun wx => make_words L (by omega) wx
  have hmd := made_words w L (by unfold maxLen; omega)
  rw [hpl]
  have HL := Lib.hid hL
  have HPE := Lib.hid hpe
  have HMD := Lib.hid hmd
  clear h3 hmd hpl hpe hL
  generalize hN : bs.length = N at *
  have HN := Lib.hid hN
  clear hN
  go_enter Try.func35, Try.ntmps35
  go_wp2_with (go_at_call 55; refine (hwo _).mono ?_; rintro e w' ⟨rfl, rfl⟩)
  go_loopw [11] (fun i wr => ∃ k : Nat, k ≤ L ∧ i = .int .i64 k ∧ Below w.heap.size w wr ∧ wr.ownsRow w.heap.size 32 1 (.slice (some ⟨w.heap.size, 0, none⟩) L L) L (wds (mkw L (wpart bs k)))) (fun i _ => L - (intOf i).toNat)
  case atStart =>
    refine ⟨0, by omega, rfl, (Below.refl _ _).alloc (Nat.le_refl _) _, ?_⟩
    rw [show mkw L (wpart bs 0) = mkw L fun _ => 0 from mkw_congr fun i _ => by unfold wpart; rw [if_neg (by omega)]]
    exact HMD.out
  case round =>
    obtain ⟨k, hk, rfl, hbw, how⟩ := hrel
    by_cases hlt : k < L
    · have hk2 : 64 * k < N := by have := HL.out; omega
      have hcell : wr.cell? ⟨w.heap.size, k, none⟩ = some (.int .u64 ((mkw L (wpart bs k)).getD k 0 : Nat)) := by
        rw [how.cellAt k (by omega)]
        simp [List.getD, hlt]
      have hfr := how.frozenAt k
      have hst := (how.stored k (.int .u64 ((nb (fun j => bit bs (64 * k + j)) 64 : Nat) : Int))).1
      rw [map_set L k (wpart bs k) (fun (n : Nat) => Value.int .u64 (n : Int)) (nb (fun j => bit bs (64 * k + j)) 64) hlt, show (fun j => if j = k then nb (fun j => bit bs (64 * k + j)) 64 else wpart bs k j) = wpart bs (k + 1) from funext (wpart_step bs k)] at hst
      have hpc := fun m hm => nb_piece bs (64 * k) m hm
      obtain ⟨b, off, rfl, hb, hcut1⟩ := (HC.out.below hbw).cut (l := 64 * k) (m := 64 * k + 1) (by omega) (by rw [List.length_map, HN.out]; omega)
      have hcut := fun m (h1 : 64 * k < m) (h2 : m ≤ N) => (HC.out.below hbw).cut (l := 64 * k) (m := m) h1 (by rw [List.length_map, HN.out]; exact h2)
      generalize (mkw L (wpart bs k)).getD k 0 = y at hcell
      generalize nb (fun j => bit bs (64 * k + j)) 64 = z at hst hpc
      have HST := Lib.hid hst
      have HBW := Lib.hid hbw
      have HPC := Lib.hid hpc
      have HCUT := Lib.hid hcut
      clear hst hbw how hpc hcut hcut1
      by_cases hmin : (N : Int) < ((k : Int) + 1) * 64
      · have hsl := fun wx => slice_bools b off N c (64 * k) N ((k : Int) * 64) N (by omega) (by omega) h1 (by omega) rfl wx
        obtain ⟨b', off', hbe, _, hce⟩ := HCUT.out N (by omega) (by omega)
        cases hbe
        rw [map_piece] at hce
        have hword := word_any wr _ (c - 64 * k) ((bs.take N).drop (64 * k)) hce (by rw [List.length_drop, List.length_take, HN.out]; omega)
        rw [HPC.out N (by rw [HN.out]; omega), show ((bs.take N).drop (64 * k)).length = N - 64 * k by rw [List.length_drop, List.length_take, HN.out]; omega] at hword
        have HWD := Lib.hid hword
        clear hword hce
        go_wp2_with (go_at_call 38; refine HWD.out.mono ?_; rintro e w1 ⟨rfl, rfl⟩)
        go_roundw
        case rel => exact ⟨k + 1, by omega, by go_num, HBW.out.setCell (Nat.le_refl _) _, HST.out⟩
        case measure => simp [intOf]; omega
      · have hsl := fun wx => slice_bools b off N c (64 * k) (64 * (k + 1)) ((k : Int) * 64) (((k : Int) + 1) * 64) (by omega) (by omega) h1 (by omega) (by omega) wx
        rw [show 64 * (k + 1) - 64 * k = 64 by omega] at hsl
        obtain ⟨b', off', hbe, _, hce⟩ := HCUT.out (64 * (k + 1)) (by omega) (by omega)
        cases hbe
        rw [map_piece] at hce
        have hword := word_any wr _ (c - 64 * k) ((bs.take (64 * (k + 1))).drop (64 * k)) hce (by rw [List.length_drop, List.length_take, HN.out]; omega)
        rw [HPC.out (64 * (k + 1)) (by rw [HN.out]; omega), show ((bs.take (64 * (k + 1))).drop (64 * k)).length = 64 by rw [List.length_drop, List.length_take, HN.out]; omega] at hword
        have HWD := Lib.hid hword
        clear hword hce
        go_wp2_with (go_at_call 38; refine HWD.out.mono ?_; rintro e w1 ⟨rfl, rfl⟩)
        go_roundw
        case rel => exact ⟨k + 1, by omega, by go_num, HBW.out.setCell (Nat.le_refl _) _, HST.out⟩
        case measure => simp [intOf]; omega

    · have : k = L := by omega
      subst this
      have HOW := Lib.hid how
      have HBW := Lib.hid hbw
      clear how hbw
      go_wp2
      go_ret
      exact ⟨_, rfl, HBW.out, by rw [← HPE.out]; exact HOW.out⟩
end Go.Proofs.Ythchemgkfjmhjaa
