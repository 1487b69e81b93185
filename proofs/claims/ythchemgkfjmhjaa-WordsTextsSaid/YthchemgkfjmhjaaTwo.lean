/- The document's Two and pack. -/
import Derived.Test.YthchemgkfjmhjaaCheck
import Derived.Deep.RegionWith
namespace Go.Proofs.Ythchemgkfjmhjaa
open Go.RowKit

theorem Two_any (n : Nat) (w : World) (hn : n ≤ 63) : Calls Try.prog 39 #[.int .i64 n] w fun e w' => e = .returned (.int .u64 ((2 ^ n : Nat) : Int)) ∧ w = w' := by
  have hni : (n : Int) ≤ 63 := by omega
  generalize hp : 2 ^ n = p
  have HP := Lib.hid hp
  clear hp
  go_enter Try.func39, Try.ntmps39
  go_wp2
  go_loop [3, 4] (fun q i => ∃ k x : Nat, k ≤ n ∧ i = .int .i64 k ∧ q = .int .u64 x ∧ x = 2 ^ k) (fun q i => n - (intOf i).toNat)
  case atStart => exact ⟨0, 1, by omega, rfl, rfl, rfl⟩
  case round =>
    obtain ⟨k, x, hk, rfl, rfl, hx⟩ := hrel
    have HX := Lib.hid hx
    clear hx
    by_cases hlt : k < n
    · have h1 : 2 ^ k ≤ 2 ^ 62 := Nat.pow_le_pow_right (by omega) (by omega)
      have hx2 : (x : Int) ≤ 4611686018427387904 := by have := HX.out; omega
      clear h1
      go_wp2
      go_round
      case rel => exact ⟨k + 1, x * 2, by omega, by go_num, by go_num, by rw [HX.out, Nat.pow_succ]⟩
      case measure => simp [intOf]; omega
    · have : k = n := by omega
      subst this
      go_wp2
      go_ret
      exact ⟨by rw [← HP.out, ← HX.out]; rfl, rfl⟩

/-- The words of the first k bits, and one of 0 more where the next bit wants it. -/
def packQ (bs : List Bool) (k : Nat) : List Nat := packL (bs.take k) ++ (if k % 64 = 0 then [0] else [])
theorem packQ_len {bs : List Bool} {k : Nat} (hk : k ≤ bs.length) : (packQ bs k).length = k / 64 + 1 := by
  unfold packQ
  rw [List.length_append, packL_len, List.length_take, Nat.min_eq_left hk]
  split <;> simp <;> omega
theorem packQ_get (bs : List Bool) (k i : Nat) : (packQ bs k).getD i 0 = nb (fun j => bit (bs.take k) (64 * i + j)) 64 := by
  rw [← packL_get']
  unfold packQ
  split
  · simp only [List.getD]
    by_cases h : i < (packL (bs.take k)).length
    · rw [List.getElem?_append_left h]
    · rw [List.getElem?_append_right (by omega), List.getElem?_eq_none (l := packL (bs.take k)) (by omega)]
      generalize i - (packL (bs.take k)).length = d
      cases d <;> simp
  · rw [List.append_nil]
theorem bit_take (bs : List Bool) (k i : Nat) : bit (bs.take k) i = (decide (i < k) && bit bs i) := by
  unfold bit
  rw [List.getD, List.getElem?_take]
  by_cases h : i < k
  · simp [h]
  · simp [h]
theorem packQ_low (bs : List Bool) (k : Nat) : (packQ bs k).getD (k / 64) 0 = nb (fun j => bit bs (64 * (k / 64) + j)) (k % 64) := by
  rw [packQ_get, nb_cut (m := k % 64) (by omega) (fun j h1 h2 => by rw [bit_take]; simp; omega)]
  exact nb_congr fun j hj => by rw [bit_take]; simp; omega
theorem packQ_other {bs : List Bool} {k i : Nat} (hi : i ≠ k / 64) : (packL (bs.take (k + 1))).getD i 0 = (packQ bs k).getD i 0 := by
  rw [packL_get', packQ_get]
  refine nb_congr fun j hj => ?_
  rw [bit_take, bit_take]
  by_cases h : 64 * i + j < k
  · simp [h, show 64 * i + j < k + 1 by omega]
  · simp [h, show ¬ 64 * i + j < k + 1 by omega]
theorem packQ_here (bs : List Bool) (k : Nat) : (packL (bs.take (k + 1))).getD (k / 64) 0 = nb (fun j => bit bs (64 * (k / 64) + j)) (k % 64 + 1) := by
  rw [packL_get', nb_cut (m := k % 64 + 1) (by omega) (fun j h1 h2 => by rw [bit_take]; simp; omega)]
  exact nb_congr fun j hj => by rw [bit_take]; simp; omega
theorem ext_words {xs ys : List Nat} (hl : xs.length = ys.length) (h : ∀ i, i < xs.length → xs.getD i 0 = ys.getD i 0) : xs = ys := by
  apply List.ext_getElem hl
  intro i h1 h2
  have := h i h1
  simpa [List.getD, h1, h2] using this
theorem packS_len {bs : List Bool} {k : Nat} (hk : k < bs.length) : (packL (bs.take (k + 1))).length = k / 64 + 1 := by
  rw [packL_len, List.length_take]; omega
theorem packQ_skip {bs : List Bool} {k : Nat} (hk : k < bs.length) (hb : bit bs k = false) : packQ bs k = packL (bs.take (k + 1)) := by
  refine ext_words (by rw [packQ_len (by omega), packS_len hk]) fun i _ => ?_
  by_cases hi : i = k / 64
  · subst hi
    rw [packQ_low, packQ_here, nb_skip _ _ (by rw [show 64 * (k / 64) + k % 64 = k by omega]; exact hb)]
  · exact (packQ_other hi).symm
theorem packQ_set {bs : List Bool} {k : Nat} (hk : k < bs.length) (hb : bit bs k = true) : (packQ bs k).set (k / 64) ((packQ bs k).getD (k / 64) 0 + 2 ^ (k % 64)) = packL (bs.take (k + 1)) := by
  refine ext_words (by rw [List.length_set, packQ_len (by omega), packS_len hk]) fun i hi => ?_
  rw [List.length_set, packQ_len (by omega)] at hi
  by_cases h : i = k / 64
  · subst h
    rw [packQ_here, nb_set _ _ (by rw [show 64 * (k / 64) + k % 64 = k by omega]; exact hb), ← packQ_low]
    simp [List.getD, packQ_len (show k ≤ bs.length by omega)]
  · rw [packQ_other h]
    simp [List.getD, Ne.symm h]

theorem own_block {w : World} {B n : Nat} {t : TypeId} {v : Value} {xs : List Value} (h : w.ownsRow B t 1 v n xs) (hn : 0 < n) : ∃ g cap, v = .slice (some ⟨g, 0, none⟩) n cap ∧ B ≤ g := by
  rcases h.2 with ⟨_, h0⟩ | ⟨g, cap, cur, hv, hb, _⟩
  · omega
  · exact ⟨g, cap, hv, hb⟩
theorem wds_set (ws : List Nat) (i x : Nat) : (wds ws).set i (.int .u64 (x : Int)) = wds (ws.set i x) := by simp [List.map_set]

theorem own_app {w2 : World} {B m n : Nat} {v2 : Value} {ps qs : List Nat} (hq : ps ++ [0] = qs) (hm : m + 1 = n)
    (h : w2.ownsRow B 32 1 v2 (m + 1) (wds ps ++ [Value.int .u64 0])) : w2.ownsRow B 32 1 v2 n (wds qs) := by
  subst hq hm; simpa using h

set_option maxHeartbeats 4000000 in
set_option maxRecDepth 100000 in
theorem Rpack_any (w : World) (v : Value) (bs : List Bool) (h : Row w v (bls bs)) (hn : bs.length ≤ 16384) :
    Calls Try.prog 36 #[v] w fun e w' => ∃ v', e = .returned v' ∧ Below w.heap.size w w' ∧ w'.ownsRow w.heap.size 32 1 v' (packL bs).length (wds (packL bs)) := by
  obtain ⟨i0, hi0, hz0, hz1, hz2⟩ := info_parts u64_info
  obtain ⟨A, c, rfl, _, _, h3⟩ := h
  rw [List.length_map]
  have HC := Lib.hid h3
  have hni : (bs.length : Int) ≤ 16384 := by omega
  have HALL := Lib.hid (List.take_length (l := bs))
  clear h3
  go_enter Try.func36, Try.ntmps36
  go_wp2
  go_loopw [3, 4] (fun q i wr => ∃ k m : Nat, k ≤ bs.length ∧ i = .int .i64 k ∧ Below w.heap.size w wr ∧ m = (packL (bs.take k)).length ∧ wr.ownsRow w.heap.size 32 1 q m (wds (packL (bs.take k)))) (fun q i _ => bs.length - (intOf i).toNat)
  case atStart => exact ⟨0, 0, by omega, rfl, Below.refl _ _, by simp [packL], by simpa [packL] using World.ownsRow_nil w w.heap.size 32 1⟩
  case round =>
    obtain ⟨k, m, hk, rfl, hbw, hml, how⟩ := hrel
    by_cases hlt : k < bs.length
    · have hpl := packL_len (bs.take k)
      rw [List.length_take, Nat.min_eq_left hk, ← hml] at hpl
      have hql := packQ_len (bs := bs) hk
      have hlow := nb_lt (fun j => bit bs (64 * (k / 64) + j)) (k % 64)
      rw [← packQ_low] at hlow
      have h63 : 2 ^ (k % 64) ≤ 2 ^ 63 := Nat.pow_le_pow_right (by omega) (by omega)
      have htwo := fun wx => Two_any (k % 64) wx (by omega)
      obtain ⟨b, off, rfl, hb0, hc0⟩ := HC.out.bit k hlt
      have hcb := (hbw.cell (p := ⟨b, off + k, none⟩) hb0).trans hc0
      have hskip := packQ_skip hlt
      have hset := packQ_set hlt
      have hsl := packS_len hlt
      have hqd : packQ bs k = packL (bs.take k) ++ (if k % 64 = 0 then [0] else []) := rfl
      generalize hns : packL (bs.take (k + 1)) = ns at hskip hset hsl
      generalize packL (bs.take k) = ps at hqd how hml
      generalize packQ bs k = qs at hqd hql hlow hskip hset
      have hkq : (k : Int) / 64 = ((k / 64 : Nat) : Int) := by omega
      have hkr : (k : Int) % 64 = ((k % 64 : Nat) : Int) := by omega
      have hqb : ((k / 64 : Nat) : Int) ≤ 256 := by omega
      generalize hgq : k / 64 = q at hkq hql hlow hset hsl hqb
      obtain ⟨L, hgl⟩ : ∃ L, L = q + 1 := ⟨_, rfl⟩
      rw [← hgl] at hql hsl
      have hqL : q < L := by omega
      have hLb : (L : Int) ≤ 257 := by omega
      generalize hgr : k % 64 = r at hkr hlow h63 htwo hset hqd
      generalize hgx : qs.getD q 0 = x at hlow hset
      generalize 2 ^ r = y at hlow h63 htwo hset
      have hxy : (x : Int) + (y : Int) ≤ 18446744073709551615 := by omega
      have hmb : (m : Int) ≤ 257 := by omega
      have hwq : IntKind.i64.wrap (q : Int) = (q : Int) := by rw [IntKind.wrap_i64]; omega
      have hkt : (k : Int).tmod 64 = (r : Int) := by rw [Int.tmod_eq_emod_of_nonneg (by omega)]; exact hkr
      have hwx : IntKind.u64.wrap ((x : Int) + (y : Int)) = (x : Int) + (y : Int) := by simp [IntKind.wrap, IntKind.bits, IntKind.signed]; omega
      have HOW := Lib.hid how
      have HBW := Lib.hid hbw
      have HSK := Lib.hid hskip
      have HSE := Lib.hid hset
      have HSL := Lib.hid hsl
      have HQL := Lib.hid hql
      have HGX := Lib.hid hgx
      have HC0 := Lib.hid hc0
      have HNS := Lib.hid hns
      clear hns
      clear how hbw hskip hset hsl hlow h63 hc0 hgx
      by_cases h64 : r = 0
      · have q64 : ((r : Int) == 0) = true := by simpa using h64
        rw [if_pos h64] at hqd
        have HM1 := Lib.hid (show m + 1 = L by omega)
        have HQD := Lib.hid hqd.symm
        clear hqd hpl hml hql hgq hgr h64 hgl
        cases hbit : bit bs k
        · rw [hbit] at HC0
          go_wp2_with (at_builtin; refine wpList_append_any _ rfl (.tmp 14) (.tmp 15) _ rfl w.heap.size 32 i0 _ 1 8 Try.underlying23 hi0 hz0 hz1 hz2 rfl (by omega) u3 m (wds ps) rfl (HOW.out.alloc _) (wr.heap.size + 1) (some ⟨wr.heap.size, 0, none⟩) 1 1 [.int .u64 0] rfl (reads_one _ _ _) (by simp [Value.oneCell']) (by simp only [maxLen]; omega) (by omega) (by have := HBW.out.size; simp; omega) ?_; intro v2 w2 hown2 hg2 hat2; have HB2 := Lib.hid ((HBW.out.alloc HBW.out.size (.cells #[Value.int .u64 0] 32)).grown hg2 (by have := HBW.out.size; simp; omega) (fun k hk => (HOW.out.lt k hk).1)); have hO2 := own_app HQD.out HM1.out hown2; obtain ⟨g, cap, rfl, hBg⟩ := own_block hO2 (Nat.zero_lt_of_lt hqL); have hcb : w2.cell? ⟨b, off + k, none⟩ = _ := (HB2.out.cell (p := ⟨b, off + k, none⟩) hb0).trans HC0.out; have HO2 := Lib.hid hO2; clear hown2 hg2 hat2 hO2)
          go_roundw
          case rel => exact ⟨k + 1, _, by omega, by go_num, HB2.out, by rw [HNS.out, HSL.out], by rw [HNS.out, ← HSK.out hbit]; exact HO2.out⟩
          case measure => simp [intOf]; omega
        · rw [hbit] at HC0
          go_wp2_with (at_builtin; refine wpList_append_any _ rfl (.tmp 14) (.tmp 15) _ rfl w.heap.size 32 i0 _ 1 8 Try.underlying23 hi0 hz0 hz1 hz2 rfl (by omega) u3 m (wds ps) rfl (HOW.out.alloc _) (wr.heap.size + 1) (some ⟨wr.heap.size, 0, none⟩) 1 1 [.int .u64 0] rfl (reads_one _ _ _) (by simp [Value.oneCell']) (by simp only [maxLen]; omega) (by omega) (by have := HBW.out.size; simp; omega) ?_; intro v2 w2 hown2 hg2 hat2; have HB2 := Lib.hid ((HBW.out.alloc HBW.out.size (.cells #[Value.int .u64 0] 32)).grown hg2 (by have := HBW.out.size; simp; omega) (fun k hk => (HOW.out.lt k hk).1)); have hO2 := own_app HQD.out HM1.out hown2; obtain ⟨g, cap, rfl, hBg⟩ := own_block hO2 (Nat.zero_lt_of_lt hqL); have hcb : w2.cell? ⟨b, off + k, none⟩ = _ := (HB2.out.cell (p := ⟨b, off + k, none⟩) hb0).trans HC0.out; have HO2 := Lib.hid hO2; clear hown2 hg2 hat2 hO2)
          have hO := HO2.out
          have hql := HQL.out
          have hcq : w2.drew.cell? ⟨g, q, none⟩ = some (.int .u64 (x : Int)) := by
            rw [show w2.drew.cell? ⟨g, q, none⟩ = w2.cell? ⟨g, q, none⟩ from rfl, hO.cellAt q (by omega), ← HGX.out]
            simp [List.getD, show q < qs.length by omega]
          have hfq : w2.drew.frozen? ⟨g, q, none⟩ = false := hO.frozenAt q
          have hst := (hO.stored q (.int .u64 ((x + y : Nat) : Int))).1
          rw [wds_set, HSE.out hbit, show ((x + y : Nat) : Int) = (x : Int) + (y : Int) from Int.natCast_add x y] at hst
          have HST := Lib.hid hst
          clear hst hO hql
          go_region_with (go_at_call 39; refine (htwo _).mono ?_; rintro e w' ⟨rfl, rfl⟩)
          all_goals go_wp2
          all_goals go_roundw
          all_goals first
            | exact ⟨k + 1, L, by omega, by go_num, (HB2.out.setCell hBg _).drew, by rw [HNS.out, HSL.out], by rw [HNS.out]; exact World.ownsRow.drew HST.out⟩
            | (simp [intOf]; omega)
      · have q64 : ((r : Int) == 0) = false := by simpa using h64
        rw [if_neg h64, List.append_nil] at hqd
        subst hqd
        have hmq : m = L := by omega
        subst hmq
        obtain ⟨g, cap, rfl, hBg⟩ := own_block HOW.out (by omega)
        clear hpl hml hql hgq hgr h64 hgl
        cases hbit : bit bs k
        · rw [hbit] at hcb
          go_wp2
          go_roundw
          case rel => exact ⟨k + 1, m, by omega, by go_num, HBW.out, by rw [HNS.out, HSL.out], by rw [HNS.out, ← HSK.out hbit]; exact HOW.out⟩
          case measure => simp [intOf]; omega
        · rw [hbit] at hcb
          have hO := HOW.out
          have hql := HQL.out
          have hcq : wr.drew.cell? ⟨g, q, none⟩ = some (.int .u64 (x : Int)) := by
            rw [show wr.drew.cell? ⟨g, q, none⟩ = wr.cell? ⟨g, q, none⟩ from rfl, hO.cellAt q (by omega), ← HGX.out]
            simp [List.getD, show q < qs.length by omega]
          have hfq : wr.drew.frozen? ⟨g, q, none⟩ = false := hO.frozenAt q
          have hst := (hO.stored q (.int .u64 ((x + y : Nat) : Int))).1
          rw [wds_set, HSE.out hbit, show ((x + y : Nat) : Int) = (x : Int) + (y : Int) from Int.natCast_add x y] at hst
          have HST := Lib.hid hst
          clear hst hO hql
          go_wp2
          go_region_with (go_at_call 39; refine (htwo _).mono ?_; rintro e w' ⟨rfl, rfl⟩)
          all_goals go_wp2
          all_goals go_roundw
          all_goals first
            | exact ⟨k + 1, m, by omega, by go_num, (HBW.out.setCell hBg _).drew, by rw [HNS.out, HSL.out], by rw [HNS.out]; exact World.ownsRow.drew HST.out⟩
            | (simp [intOf]; omega)
    · have : k = bs.length := by omega
      subst this
      rw [HALL.out] at how hml
      have HOW := Lib.hid how
      have HBW := Lib.hid hbw
      have HML := Lib.hid hml
      clear how hbw hml
      go_wp2
      go_ret
      exact ⟨_, rfl, HBW.out, by rw [← HML.out]; exact HOW.out⟩
end Go.Proofs.Ythchemgkfjmhjaa
