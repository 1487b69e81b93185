/- Tern: the contract of the call Join: the program's and the document's. -/
import Derived.Test.YtbeaicmjohlboaaGreatDoorTrnB
namespace Go.Proofs.YtbeaicmjohlboaaGreatDoor
open Go.RowKit

def joinE (A B : List Int) : Int := if 16384 < A.length ∨ 16384 < B.length then 2 else if okRow A B.length = true ∧ okRow B A.length = true then 0 else 80
theorem join3_at {A B : List Int} {k : Nat} {x y : Int} (ha : A[k]? = some x) (hb : B[k]? = some y) : (join3 A B)[k]? = some (if x = y then x else 2) := by
  unfold join3
  rw [List.getElem?_zipWith, ha, hb]

theorem joinE_iff (A B : List Int) : (okRow A B.length = true ∧ okRow B A.length = true) ↔ (okRow A A.length = true ∧ okRow B A.length = true) := by
  constructor
  · rintro ⟨h1, h2⟩
    exact ⟨okRow_iff.2 ⟨rfl, (okRow_iff.1 h1).2⟩, h2⟩
  · rintro ⟨h1, h2⟩
    exact ⟨okRow_iff.2 ⟨(okRow_iff.1 h2).1.symm, (okRow_iff.1 h1).2⟩, h2⟩

set_option maxHeartbeats 4000000 in
set_option maxRecDepth 100000 in
theorem rTJoin_any (w : World) (av bv : Value) (A B : List Int) (ha : RowE 1 encI w av A) (hb : RowE 1 encI w bv B) :
    Calls Tryz.prog 21 #[av, bv] w fun e w' => Below w.heap.size w w' ∧ ∃ v, e = .returned (.tuple #[v, .int .i64 (joinE A B)]) ∧ (joinE A B ≠ 0 → v = .slice none 0 0) ∧
      (joinE A B = 0 → ∃ g, v = .slice (some ⟨g, 0, none⟩) A.length A.length ∧ w.heap.size ≤ g ∧ Nums w' g (join3 A B)) := by
  have hla := ha.len
  have hlb := hb.len
  have HIA := Lib.hid (fun (n : Nat) => rRow_any w av A n ha)
  have HIB := Lib.hid (fun (n : Nat) => rRow_any w bv B n hb)
  obtain ⟨aA, ac, ea, _, _, hra⟩ := ha
  obtain ⟨bA, bc, eb, _, _, hrb⟩ := hb
  subst ea eb
  have HRA := Lib.hid hra
  have HRB := Lib.hid hrb
  clear hra hrb
  by_cases h1 : 16384 < A.length
  · have HE : Hid (joinE A B = 2) := Lib.hid (by unfold joinE; rw [if_pos (.inl h1)])
    rw [HE.out]
    have h1i : (16384 : Int) < (A.length : Int) := by omega
    generalize A.length = n at *
    generalize B.length = n2 at *
    go_enter Tryz.func21, Tryz.ntmps21
    go_wp2
    go_ret2
    first
      | exact ⟨Below.refl _ _, _, rfl, fun _ => rfl, fun h => absurd h (by decide)⟩
      | exact ⟨Below.refl _ _, rfl⟩
      | exact ⟨Below.refl _ _, by rfl⟩
  · have h1i : ¬ (16384 : Int) < (A.length : Int) := by omega
    by_cases h2 : 16384 < B.length
    · have HE : Hid (joinE A B = 2) := Lib.hid (by unfold joinE; rw [if_pos (.inr h2)])
      rw [HE.out]
      have h2i : (16384 : Int) < (B.length : Int) := by omega
      generalize A.length = n at *
      generalize B.length = n2 at *
      go_enter Tryz.func21, Tryz.ntmps21
      go_wp2
      go_ret2
      first
        | exact ⟨Below.refl _ _, _, rfl, fun _ => rfl, fun h => absurd h (by decide)⟩
        | exact ⟨Below.refl _ _, rfl⟩
        | exact ⟨Below.refl _ _, by rfl⟩
    · have h2i : ¬ (16384 : Int) < (B.length : Int) := by omega
      by_cases h3 : okRow A A.length = true ∧ okRow B A.length = true
      · have HE : Hid (joinE A B = 0) := Lib.hid (by unfold joinE; rw [if_neg (by omega), if_pos ((joinE_iff A B).2 h3)])
        have hll := (okRow_iff.1 h3.2).1.symm
        have HJL : Hid ((join3 A B).length = A.length) := Lib.hid (join3_len A B hll)
        rw [HE.out]
        rw [← hll] at h2i
        have HIA2 := Lib.hid (HIA.out A.length)
        have HIB2 := Lib.hid (HIB.out A.length)
        rw [h3.1] at HIA2
        rw [h3.2] at HIB2
        obtain ⟨n, hn⟩ : ∃ n, A.length = n := ⟨_, rfl⟩
        have HN := Lib.hid (And.intro hn (hll.symm.trans hn))
        have hn2 : B.length = n := hll.symm.trans hn
        rw [hn] at HIA2 HIB2 HJL h1i h2i h1
        rw [hn2] at HIB2
        rw [hn, hn2]
        have hmk := make_ints n (by omega)
        have HJA := Lib.hid (fun (k : Nat) (x y : Int) (h : A[k]? = some x) (h' : B[k]? = some y) => join3_at h h')
        generalize join3 A B = N at *
        have HS0 : Hid (Below w.heap.size w (w.alloc (.cells (madeCells #[Value.int .i64 0] n) 3)) ∧ Nums (w.alloc (.cells (madeCells #[Value.int .i64 0] n) 3)) w.heap.size (List.replicate n 0)) := by
          refine Lib.hid ⟨(Below.refl _ _).alloc (Nat.le_refl _) _, ?_⟩
          unfold Nums
          rw [← made_ints]
          exact Blk.new w 3 _
        clear h3 hll hn hn2 hla hlb HIA HIB HE
        go_enter Tryz.func21, Tryz.ntmps21
        go_wp2_with (first | (go_at_call_of 39 aA; refine HIA2.out.mono ?_; rintro e w5 ⟨rfl, hw5⟩; rw [hw5]; clear hw5 w5) | (go_at_call_of 39 bA; refine HIB2.out.mono ?_; rintro e w5 ⟨rfl, hw5⟩; rw [hw5]; clear hw5 w5))
        go_loopg [7] n (fun k j wx => ∃ q : Nat, q ≤ n ∧ k = n - q ∧ j = .int .i64 q ∧ Below w.heap.size w wx ∧ Nums wx w.heap.size (N.take q ++ List.replicate (n - q) 0))
        case atStart => exact ⟨0, Nat.zero_le _, rfl, rfl, HS0.out.1, HS0.out.2⟩
        case round =>
          obtain ⟨q, hq, hgk, rfl, hbl, hnu⟩ := hrel
          subst hgk
          have HBL := Lib.hid hbl
          have HNU := Lib.hid hnu
          clear hbl hnu HS0
          by_cases hlt : q < n
          · obtain ⟨x, hx⟩ : ∃ x, A[q]? = some x := ⟨_, List.getElem?_eq_getElem (by rw [HN.out.1]; exact hlt)⟩
            obtain ⟨y, hy⟩ : ∃ y, B[q]? = some y := ⟨_, List.getElem?_eq_getElem (by rw [HN.out.2]; exact hlt)⟩
            obtain ⟨ab, aoff, e, hab, hca⟩ := HRA.out q x hx
            subst e
            obtain ⟨bb, boff, e, hbb, hcb⟩ := HRB.out q y hy
            subst e
            have HXY := Lib.hid (HJA.out q x y hx hy)
            have k0 := (HBL.out.cell (p := ⟨ab, aoff + (q * 1 + 0), none⟩) hab).trans (hca 0 _ rfl)
            have htl : q < (N.take q ++ List.replicate (n - q) 0).length := by rw [fill3_len HJL.out hq]; exact hlt
            have hold := Nums.cell HNU.out (getD_int htl)
            have hfr := Blk.frozen HNU.out q
            have hgb := Blk.lt HNU.out
            have HV := Lib.hid (Nums.set_ HNU.out q 2)
            have HB2 := Lib.hid (HBL.out.setCell (p := ⟨w.heap.size, q, none⟩) (Nat.le_refl _) (.int .i64 2))
            have HB3 := Lib.hid HB2.out.drew
            have HV3 := Lib.hid (Blk.drew HV.out)
            have k1 := (HB3.out.cell (p := ⟨bb, boff + (q * 1 + 0), none⟩) hbb).trans (hcb 0 _ rfl)
            have k2 := (HB3.out.cell (p := ⟨ab, aoff + (q * 1 + 0), none⟩) hab).trans (hca 0 _ rfl)
            simp only [Nat.mul_one, Nat.add_zero] at k0 k1 k2
            have htl2 : q < ((N.take q ++ List.replicate (n - q) 0).set q 2).length := by rw [List.length_set]; exact htl
            have hold2 := Nums.cell HV3.out (getD_int htl2)
            have hfr2 := Blk.frozen HV3.out q
            have hgb2 := Blk.lt HV3.out
            have hqi : (q : Int) < (n : Int) := by omega
            have hqi0 : (0 : Int) ≤ (q : Int) := by omega
            clear hca hcb htl htl2 hx hy
            go_upto_region 10 with (fail)
            go_region
            by_cases he : x = y
            · have he2 : (x == y) = true := by simpa using he
              have HXQ : Hid (N[q]? = some x) := Lib.hid (by rw [HXY.out, if_pos he])
              clear he
              go_wp2
              go_roundg (n - (q + 1))
              case measure => omega
              case rel =>
                refine ⟨q + 1, by omega, rfl, by go_num, HB3.out.setCell (p := ⟨w.heap.size, q, none⟩) (Nat.le_refl _) (.int .i64 x), ?_⟩
                have h9 := Nums.set_ HV3.out q x
                rw [List.set_set, fill3_set HJL.out HXQ.out] at h9
                exact h9
            · have he2 : (x == y) = false := by simpa using he
              have HXQ : Hid (N[q]? = some 2) := Lib.hid (by rw [HXY.out, if_neg he])
              clear he
              go_wp2
              go_roundg (n - (q + 1))
              case measure => omega
              case rel =>
                refine ⟨q + 1, by omega, rfl, by go_num, HB3.out, ?_⟩
                rw [← fill3_set HJL.out HXQ.out]
                exact HV3.out
          · have hqe : n = q := by omega
            subst hqe
            have hend := HNU.out
            rw [fill3_end HJL.out] at hend
            have HEN := Lib.hid hend
            clear hend hlt hq
            go_wp2
            go_ret2
            exact ⟨HBL.out, _, rfl, fun h => absurd rfl h, fun _ => ⟨w.heap.size, rfl, Nat.le_refl _, HEN.out⟩⟩
      · have HE : Hid (joinE A B = 80) := Lib.hid (by unfold joinE; rw [if_neg (by omega), if_neg (fun h => h3 ((joinE_iff A B).1 h))])
        rw [HE.out]
        have HIA2 := Lib.hid (HIA.out A.length)
        have HIB2 := Lib.hid (HIB.out A.length)
        obtain ⟨p1, hp1⟩ : ∃ b, okRow A A.length = b := ⟨_, rfl⟩
        obtain ⟨p2, hp2⟩ : ∃ b, okRow B A.length = b := ⟨_, rfl⟩
        rw [hp1] at HIA2 h3
        rw [hp2] at HIB2 h3
        generalize A.length = n at *
        generalize B.length = n2 at *
        clear hp1 hp2 HIA HIB HE
        cases p1 <;> cases p2 <;> first
          | (exact absurd ⟨rfl, rfl⟩ h3)
          | (clear h3
             go_enter Tryz.func21, Tryz.ntmps21
             go_wp2_with (first | (go_at_call_of 39 aA; refine HIA2.out.mono ?_; rintro e w5 ⟨rfl, hw5⟩; rw [hw5]; clear hw5 w5) | (go_at_call_of 39 bA; refine HIB2.out.mono ?_; rintro e w5 ⟨rfl, hw5⟩; rw [hw5]; clear hw5 w5))
             go_ret2
             first
               | exact ⟨Below.refl _ _, _, rfl, fun _ => rfl, fun h => absurd h (by decide)⟩
               | exact ⟨Below.refl _ _, rfl⟩
               | exact ⟨Below.refl _ _, by rfl⟩)
end Go.Proofs.YtbeaicmjohlboaaGreatDoor
