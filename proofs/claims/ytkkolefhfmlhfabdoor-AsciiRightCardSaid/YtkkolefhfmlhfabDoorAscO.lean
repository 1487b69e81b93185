/- Ascii: a symbol. -/
import Derived.Test.YtkkolefhfmlhfabDoorAscN
import Derived.Lib.IndexAny
namespace Go.Proofs.YtkkolefhfmlhfabDoor
open Go.RowKit

theorem cutS_idx : ∀ (l : Bs), (Lib.index l [32] = -1 ∧ cutS l = (l, [])) ∨ ∃ i : Nat, Lib.index l [32] = (i : Int) ∧ i < l.length ∧ cutS l = (l.take i, l.drop (i + 1))
  | [] => .inl ⟨rfl, rfl⟩
  | c :: r => by
    rw [idx_cons]
    by_cases h : c = 32
    · subst h
      refine .inr ⟨0, by simp, by simp, by simp [cutS]⟩
    · rw [if_neg h]
      rcases cutS_idx r with ⟨h1, h2⟩ | ⟨i, h1, hi, h2⟩
      · rw [if_pos h1]
        refine .inl ⟨rfl, ?_⟩
        simp only [cutS]
        rw [if_neg h, h2]
      · rw [if_neg (by omega)]
        refine .inr ⟨i + 1, by omega, by simp; omega, ?_⟩
        simp only [cutS]
        rw [if_neg h, h2]
        simp
theorem cut_cutS (l : Bs) : ∃ bz, Lib.cut l [32] = ((cutS l).1, (cutS l).2, bz) := by
  unfold Lib.cut
  rcases cutS_idx l with ⟨h1, h2⟩ | ⟨i, h1, _, h2⟩
  · rw [h1, h2]
    exact ⟨false, by simp⟩
  · rw [h1, h2]
    exact ⟨true, by simp⟩
theorem cutS_len (l : Bs) : (cutS l).1.length ≤ l.length ∧ (cutS l).2.length ≤ l.length := by
  rcases cutS_idx l with ⟨_, h2⟩ | ⟨i, _, _, h2⟩
  · rw [h2]; simp
  · rw [h2]; simp; omega
theorem kinds_has (c : UInt8) : decide (Lib.indexByte kindsA c < 0) = !decide (c ∈ kindsA) := by
  have h := Lib.contains_iff_indexByte kindsA c
  have h2 : kindsA.contains c = decide (c ∈ kindsA) := by rw [Bool.eq_iff_iff]; simp
  rw [h2] at h
  rw [h]
  by_cases hd : 0 ≤ Lib.indexByte kindsA c
  · have : ¬ Lib.indexByte kindsA c < 0 := by omega
    simp [hd, this]
  · have : Lib.indexByte kindsA c < 0 := by omega
    simp [hd, this]
/-- What symbol answers. -/
def SymAns (lk : Nat) (q : Option SyA) (e : Ending) : Prop := match q with
  | none => e = pan lk 42
  | some y => e = .returned (.agg #[.int .u8 (y.1.toNat : Int), .int .i64 (y.2.1 : Int), .string (strB y.2.2)])
abbrev sym0 : Array Value := #[.int .u8 0, .int .i64 0, .string ⟨#[]⟩]
theorem emptyB {l : Bs} : (strB l).toList.isEmpty = decide (l = []) := by
  rw [strB_toList]
  cases l <;> simp
set_option maxHeartbeats 8000000 in
set_option maxRecDepth 100000 in
theorem symbol_any (w : World) (B b : Nat) (s l : Bs) (p lk : Nat) (h : Rd w b s p lk) (hl : l.length ≤ 262144) (lib : LibB B w) (hB : B ≤ b) :
    Calls Tryd.prog 54 #[.pointer (some ⟨b, 0, none⟩), .string (strB l)] w fun e w' => Below w.heap.size w w' ∧ SymAns lk (symA l) e := by
  have hlt : b < w.heap.size := Blk.lt h
  obtain ⟨w1, hw1⟩ : ∃ x, w.alloc (.cells sym0 38) = x := ⟨_, rfl⟩
  have HW1 := Lib.hid hw1
  have hb1 : Below w.heap.size w w1 := by rw [← hw1]; exact (Below.refl _ _).alloc (Nat.le_refl _) _
  have HBK1 : Hid (Blk w1 w.heap.size 38 sym0) := Lib.hid (by rw [← hw1]; exact Blk.new _ _ _)
  have hs1 : w1.heap.size = w.heap.size + 1 := by rw [← hw1]; simp
  have HB1 := Lib.hid hb1
  have HR1 : Hid (Rd w1 b s p lk) := Lib.hid (h.below hb1)
  have HL1 : Hid (LibB B w1) := Lib.hid (lib.up (by omega) hb1)
  obtain ⟨mx, hmx⟩ := HL1.out.here.max
  obtain ⟨bz, hbz⟩ := cut_cutS l
  have hcut := Tryd.strings_Cut (strB l) (strB [32]) mx w1 (by rw [strB_size]; omega) hmx
  rw [strB_list, strB_list, hbz] at hcut
  obtain ⟨hk1, hk2⟩ := cutS_len l
  obtain ⟨l1, hl1⟩ : ∃ x, (cutS l).1 = x := ⟨_, rfl⟩
  obtain ⟨l2, hl2⟩ : ∃ x, (cutS l).2 = x := ⟨_, rfl⟩
  rw [hl1, hl2] at hcut
  rw [hl1] at hk1
  rw [hl2] at hk2
  have HCUT : Hid (Calls Tryd.prog 47 #[.string (strB l), .string ⟨#[32]⟩] w1 fun e w' => e = .returned (.tuple #[.string (strB l1), .string (strB l2), .bool bz]) ∧ ∃ n, w' = w1.drewN n) := Lib.hid hcut
  obtain ⟨q, hq⟩ : ∃ q, symA l = q := ⟨_, rfl⟩
  rw [hq]
  unfold symA at hq
  rw [hl1, hl2] at hq
  have HQ := Lib.hid hq
  have HE1 := Lib.hid (@emptyB l1)
  have HE2 := Lib.hid (@emptyB l2)
  clear hcut hmx hbz hl1 hl2 hq hw1 hb1 h lib hs1
  by_cases h1 : l1 = []
  · have HN : Hid (q = none) := Lib.hid (by rw [← HQ.out, h1])
    have z1 : (strB l1).toList.isEmpty = true := by rw [HE1.out]; simpa using h1
    clear h1 HQ
    go_enter Tryd.func54, Tryd.ntmps54
    go_upto_region 1 with (fail)
    rw [HW1.out]
    go_upto_region 2 with (go_at_call 47; refine HCUT.out.mono ?_; rintro e w2 ⟨rfl, nn, hw2⟩; have HB2 : Hid (Below w.heap.size w w2) := Lib.hid (by rw [hw2]; exact below_drewN HB1.out nn); have HR2 : Hid (Rd w2 b s p lk) := Lib.hid (by rw [hw2]; exact Blk.drewN HR1.out nn); have HBK2 : Hid (Blk w2 w.heap.size 38 sym0) := Lib.hid (by rw [hw2]; exact Blk.drewN HBK1.out nn); have HS2 : Hid (Below w1.heap.size w1 w2) := Lib.hid (by rw [hw2]; exact below_drewN (Below.refl _ _) nn); clear hw2)
    have HRF := Lib.hid (refuse_any w2 b s p lk HR2.out)
    go_wp2_with (go_at_call 71; refine HRF.out.mono ?_; rintro e w6 ⟨rfl, rfl⟩)
    refine ⟨rfl, HB2.out, ?_⟩
    rw [HN.out]
    rfl
  · by_cases h2 : l2 = []
    · have HN : Hid (q = none) := Lib.hid (by
        rw [← HQ.out]
        cases l1 with
        | nil => rfl
        | cons c r => simp [h2])
      have z1 : (strB l1).toList.isEmpty = false := by rw [HE1.out]; simpa using h1
      have z2 : (strB l2).toList.isEmpty = true := by rw [HE2.out]; simpa using h2
      clear h1 h2 HQ
      go_enter Tryd.func54, Tryd.ntmps54
      go_upto_region 1 with (fail)
      rw [HW1.out]
      go_upto_region 2 with (go_at_call 47; refine HCUT.out.mono ?_; rintro e w2 ⟨rfl, nn, hw2⟩; have HB2 : Hid (Below w.heap.size w w2) := Lib.hid (by rw [hw2]; exact below_drewN HB1.out nn); have HR2 : Hid (Rd w2 b s p lk) := Lib.hid (by rw [hw2]; exact Blk.drewN HR1.out nn); have HBK2 : Hid (Blk w2 w.heap.size 38 sym0) := Lib.hid (by rw [hw2]; exact Blk.drewN HBK1.out nn); have HS2 : Hid (Below w1.heap.size w1 w2) := Lib.hid (by rw [hw2]; exact below_drewN (Below.refl _ _) nn); clear hw2)
      have HRF := Lib.hid (refuse_any w2 b s p lk HR2.out)
      go_wp2_with (go_at_call 71; refine HRF.out.mono ?_; rintro e w6 ⟨rfl, rfl⟩)
      refine ⟨rfl, HB2.out, ?_⟩
      rw [HN.out]
      rfl
    · obtain ⟨c, hc⟩ : ∃ c, l1[0]? = some c := by
        cases l1 with
        | nil => exact absurd rfl h1
        | cons c r => exact ⟨c, rfl⟩
      obtain ⟨hk, hget⟩ := get0 hc
      have z1 : (strB l1).toList.isEmpty = false := by rw [HE1.out]; simpa using h1
      have z2 : (strB l2).toList.isEmpty = false := by rw [HE2.out]; simpa using h2
      have hd1 : l1 = c :: l1.drop 1 := by
        cases l1 with
        | nil => exact absurd rfl h1
        | cons c' r => simp at hc; rw [hc]; rfl
      have HQ2 : Hid (q = if c ∉ kindsA then none else match numA (l1.drop 1) with
          | none => none
          | some n => some (c, n, l2)) := Lib.hid (by
        rw [← HQ.out]
        cases l1 with
        | nil => exact absurd rfl h1
        | cons c' r =>
          simp at hc
          subst hc
          by_cases hin : c' ∈ kindsA
          · simp only [h2, hin, not_true_eq_false, or_self, if_false, List.drop_succ_cons, List.drop_zero]
            cases numA r <;> rfl
          · simp [h2, hin])
      have HIX : Hid (∀ wx : World, Calls Tryd.prog 72 #[.string ⟨#[105, 108, 111, 98, 99, 106, 102]⟩, .int .u8 (c.toNat : Int)] wx fun e w' => e = .returned (.int .i64 (Lib.indexByte kindsA c)) ∧ wx = w') := Lib.hid (fun wx => by
        have h9 := Tryd.strings_IndexByte (strB kindsA) (c.toNat : Int) wx
        rw [strB_list, show ((c.toNat : Int)).toNat.toUInt8 = c by simp] at h9
        exact h9.mono fun e w' ⟨q1, q2⟩ => ⟨q1, q2.symm⟩)
      have hgt : (strB l1)[0]'hk = c := hget
      have hkd := kinds_has c
      have hsz1 : (strB l1).size = l1.length := strB_size l1
      have hdr := strB_drop l1 1
      rw [hsz1] at hdr
      have hldl : (l1.drop 1).length ≤ 262144 := by rw [List.length_drop]; omega
      obtain ⟨ld, hld⟩ : ∃ x, l1.drop 1 = x := ⟨_, rfl⟩
      rw [hld] at hdr HQ2 hldl hd1
      clear hld
      have hl1p : 0 < l1.length := by rw [← hsz1]; exact hk
      by_cases hin : c ∈ kindsA
      · have hix : (decide (Lib.indexByte kindsA c < 0)) = false := by rw [hkd]; simp [hin]
        have HQ3 : Hid (q = match numA ld with
          | none => none
          | some n => some (c, n, l2)) := Lib.hid (by rw [HQ2.out, if_neg (by simpa using hin)])
        have hixp : ¬ Lib.indexByte kindsA c < 0 := by simpa using hix
        have HNO := Lib.hid (fun (wx : World) (hb : Below w1.heap.size w1 wx) => numberOf_any wx B ld hldl (HL1.out.up (by have := HB1.out.size; omega) hb) (by have := HB1.out.size; have := hb.size; omega))
        have hsl1 : (1 : Int) ≤ (l1.length : Int) := by omega
        have hsl2 : 1 ≤ l1.length := by omega
        clear HQ HQ2 h1 h2 hd1 hc hin hkd hix
        cases hn : numA ld with
        | none =>
          have HN : Hid (q = none) := Lib.hid (by rw [HQ3.out, hn])
          rw [hn] at HNO
          clear HQ3 hn
          go_enter Tryd.func54, Tryd.ntmps54
          go_upto_region 1 with (fail)
          rw [HW1.out]
          go_upto_region 2 with (go_at_call 47; refine HCUT.out.mono ?_; rintro e w2 ⟨rfl, nn, hw2⟩; have HB2 : Hid (Below w.heap.size w w2) := Lib.hid (by rw [hw2]; exact below_drewN HB1.out nn); have HR2 : Hid (Rd w2 b s p lk) := Lib.hid (by rw [hw2]; exact Blk.drewN HR1.out nn); have HBK2 : Hid (Blk w2 w.heap.size 38 sym0) := Lib.hid (by rw [hw2]; exact Blk.drewN HBK1.out nn); have HS2 : Hid (Below w1.heap.size w1 w2) := Lib.hid (by rw [hw2]; exact below_drewN (Below.refl _ _) nn); clear hw2)
          go_wp2_with (first
            | (go_at_call 72; (try rw [hgt]); refine (HIX.out w2).mono ?_; rintro e w3 ⟨rfl, rfl⟩)
            | (go_at_call 69; (try rw [hdr]); refine (HNO.out w2 HS2.out).mono ?_; rintro e w3 ⟨hb, v, rfl, _⟩; have HB3 := Lib.hid (bt HB2.out (by have := HB2.out.size; omega) hb); have HR3 := Lib.hid (HR2.out.below hb); clear hb)
            | (go_at_call 71; refine (refuse_any w3 b s p lk HR3.out).mono ?_; rintro e w6 ⟨rfl, rfl⟩))
          refine ⟨rfl, HB3.out, ?_⟩
          rw [HN.out]
          rfl
        | some n =>
          have HN : Hid (q = some (c, n, l2)) := Lib.hid (by rw [HQ3.out, hn])
          rw [hn] at HNO
          have HCL := Lib.hid (fun (wx : World) => clone_any wx l2 (by omega))
          clear HQ3 hn
          go_enter Tryd.func54, Tryd.ntmps54
          go_upto_region 1 with (fail)
          rw [HW1.out]
          go_upto_region 2 with (go_at_call 47; refine HCUT.out.mono ?_; rintro e w2 ⟨rfl, nn, hw2⟩; have HB2 : Hid (Below w.heap.size w w2) := Lib.hid (by rw [hw2]; exact below_drewN HB1.out nn); have HR2 : Hid (Rd w2 b s p lk) := Lib.hid (by rw [hw2]; exact Blk.drewN HR1.out nn); have HBK2 : Hid (Blk w2 w.heap.size 38 sym0) := Lib.hid (by rw [hw2]; exact Blk.drewN HBK1.out nn); have HS2 : Hid (Below w1.heap.size w1 w2) := Lib.hid (by rw [hw2]; exact below_drewN (Below.refl _ _) nn); clear hw2)
          go_upto_region 7 with (first
            | (go_at_call 72; (try rw [hgt]); refine (HIX.out w2).mono ?_; rintro e w3 ⟨rfl, rfl⟩)
            | (go_at_call 69; (try rw [hdr]); refine (HNO.out w2 HS2.out).mono ?_; rintro e w3 ⟨hb, v, rfl, hv⟩; obtain rfl := hv n rfl; have HB3 := Lib.hid (bt HB2.out (by have := HB2.out.size; omega) hb); have HBK3 := Lib.hid (HBK2.out.below hb (Blk.lt HBK2.out)); clear hb hv))
          have HBD : Hid (Blk w3.drew w.heap.size 38 sym0) := Lib.hid (Blk.drew HBK3.out)
          have HB3D : Hid (Below w.heap.size w w3.drew) := Lib.hid HB3.out.drew
          have hc0 : (c.toNat : Int) ≤ 255 := by have := c.toNat_lt; omega
          go_region_with (go_at_call 50; refine (HCL.out w3.drew).mono ?_; rintro e w4 ⟨rfl, hb⟩; have HB4 := Lib.hid (bt HB3D.out (Nat.le_refl _) hb); have hk4 := HBD.out.below hb (Blk.lt HBD.out); have HBK4 := Lib.hid hk4; have f0 := Blk.frozen hk4 0; have f1 := Blk.frozen hk4 1; have f2 := Blk.frozen hk4 2; have c0 : w4.cell? ⟨w.heap.size, 0, none⟩ = some (.int .u8 0) := hk4.cell 0; have c1 : w4.cell? ⟨w.heap.size, 1, none⟩ = some (.int .i64 0) := hk4.cell 1; have c2 : w4.cell? ⟨w.heap.size, 2, none⟩ = some (.string ⟨#[]⟩) := hk4.cell 2; clear hb hk4)
          all_goals
            have hF := Blk.set_ (Blk.set_ (Blk.set_ HBK4.out 0 (.int .u8 (c.toNat : Int))) 1 (.int .i64 (n : Int))) 2 (.string (strB l2))
            have hBF := below_set (below_set (below_set HB4.out (Nat.le_refl _) 0 (.int .u8 (c.toNat : Int))) (Nat.le_refl _) 1 (.int .i64 (n : Int))) (Nat.le_refl _) 2 (.string (strB l2))
            generalize (((w4.setCell ⟨w.heap.size, 0, none⟩ (.int .u8 (c.toNat : Int))).setCell ⟨w.heap.size, 1, none⟩ (.int .i64 (n : Int))).setCell ⟨w.heap.size, 2, none⟩ (.string (strB l2))) = wF at hF hBF ⊢
            clear f0 f1 f2 c0 c1 c2
            go_wp2
            refine bodyPost_ret (results_cell_row (fn := Tryd.f54) rfl _ _ w.heap.size 38 #[.int .u8 (c.toNat : Int), .int .i64 (n : Int), .string (strB l2)] (0, 0) _ rfl hF Tryd.underlying38 rfl (by kernel_rfl)) rfl ?_
            refine ⟨hBF, ?_⟩
            rw [HN.out]
            rfl
      · have hix : (decide (Lib.indexByte kindsA c < 0)) = true := by rw [hkd]; simp [hin]
        have HN : Hid (q = none) := Lib.hid (by rw [HQ2.out, if_pos hin])
        have hixp : Lib.indexByte kindsA c < 0 := by simpa using hix
        clear HQ HQ2 h1 h2 hd1 hc hin hkd hdr hsz1 hl1p hix
        go_enter Tryd.func54, Tryd.ntmps54
        go_upto_region 1 with (fail)
        rw [HW1.out]
        go_upto_region 2 with (go_at_call 47; refine HCUT.out.mono ?_; rintro e w2 ⟨rfl, nn, hw2⟩; have HB2 : Hid (Below w.heap.size w w2) := Lib.hid (by rw [hw2]; exact below_drewN HB1.out nn); have HR2 : Hid (Rd w2 b s p lk) := Lib.hid (by rw [hw2]; exact Blk.drewN HR1.out nn); have HBK2 : Hid (Blk w2 w.heap.size 38 sym0) := Lib.hid (by rw [hw2]; exact Blk.drewN HBK1.out nn); have HS2 : Hid (Below w1.heap.size w1 w2) := Lib.hid (by rw [hw2]; exact below_drewN (Below.refl _ _) nn); clear hw2)
        go_wp2_with (first
          | (go_at_call 72; (try rw [hgt]); refine (HIX.out w2).mono ?_; rintro e w3 ⟨rfl, rfl⟩)
          | (go_at_call 71; refine (refuse_any w2 b s p lk HR2.out).mono ?_; rintro e w6 ⟨rfl, rfl⟩))
        refine ⟨rfl, HB2.out, ?_⟩
        rw [HN.out]
        rfl
end Go.Proofs.YtkkolefhfmlhfabDoor
