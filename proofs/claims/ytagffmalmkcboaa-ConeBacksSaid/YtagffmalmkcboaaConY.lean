/- Cone: does a trace fit a cut: fits. -/
import Derived.Test.YtagffmalmkcboaaConC
import Derived.BigQuiet
import Derived.Deep.Quiet
import Derived.Test.YtagffmalmkcboaaAppF
import Derived.Test.YtagffmalmkcboaaSimB
import Derived.Test.YtagffmalmkcboaaConH
import Derived.Test.YtagffmalmkcboaaSimN
namespace Go.Proofs.Ytagffmalmkcboaa
open Go.RowKit Go.Maps

def riseB (n : Int) : Int → List Int → Bool
  | _, [] => true
  | k, x :: r => if x ≤ k ∨ n ≤ x then false else riseB n x r
def lastAt (L : List Int) (q : Nat) : Int := if q = 0 then -1 else L.getD (q - 1) 0
theorem lastAt_succ {L : List Int} {q : Nat} {x : Int} (h : L[q]? = some x) : lastAt L (q + 1) = x := by
  unfold lastAt
  rw [if_neg (by omega), List.getD_eq_getElem?_getD, Nat.add_sub_cancel, h]
  rfl
theorem riseB_at {L : List Int} {n : Int} {q : Nat} {x : Int} (h : L[q]? = some x) : riseB n (lastAt L q) (L.drop q) = if x ≤ lastAt L q ∨ n ≤ x then false else riseB n (lastAt L (q + 1)) (L.drop (q + 1)) := by
  have hq := (List.getElem?_eq_some_iff.1 h).1
  rw [lastAt_succ h, List.drop_eq_getElem_cons hq, (List.getElem?_eq_some_iff.1 h).2]
  rfl
theorem riseB_end {L : List Int} {n : Int} : riseB n (lastAt L L.length) (L.drop L.length) = true := by
  rw [List.drop_length]
  rfl

set_option maxHeartbeats 8000000 in
set_option maxRecDepth 100000 in
theorem areNumbers_any (w : World) (v : Value) (L : List Int) (n : Int) (hv : RowE 1 encI w v L) :
    Calls Try.prog 37 #[v, .int .i64 n] w fun e w' => e = .returned (.bool (riseB n (-1) L)) ∧ Below w.heap.size w w' := by
  have hm := hv.len
  unfold maxLen at hm
  obtain ⟨A, c, rfl, _, _, hA⟩ := hv
  have HA := Lib.hid hA
  clear hA
  obtain ⟨nl, hl⟩ : ∃ nl, L.length = nl := ⟨_, rfl⟩
  rw [hl] at hm ⊢
  have HL := Lib.hid hl
  clear hl
  go_enter Try.func37, Try.ntmps37
  go_wp2
  go_loopg [5, 10] nl (fun j lv iv wx => ∃ q : Nat, q ≤ nl ∧ j = nl - q ∧ iv = .int .i64 q ∧ lv = .int .i64 (lastAt L q) ∧ Below w.heap.size w wx ∧ riseB n (-1) L = riseB n (lastAt L q) (L.drop q))
  case atStart => exact ⟨0, Nat.zero_le _, rfl, rfl, rfl, Below.refl _ _, rfl⟩
  case round =>
    obtain ⟨q, hq, hgk, rfl, rfl, hbl, hre⟩ := hrel
    subst hgk
    have HBL := Lib.hid hbl
    have HRE := Lib.hid hre
    clear hbl hre
    by_cases hlt : q < nl
    · obtain ⟨x, hx⟩ : ∃ x, L[q]? = some x := ⟨_, List.getElem?_eq_getElem (by rw [HL.out]; exact hlt)⟩
      obtain ⟨b, off, rfl, hb, hcell⟩ := HA.out q x hx
      have h0 := (HBL.out.cell (p := ⟨b, off + (q * 1 + 0), none⟩) hb).trans (hcell 0 _ rfl)
      simp only [Nat.add_zero, Nat.mul_one] at h0
      have HR2 := Lib.hid (HRE.out.trans (riseB_at hx))
      have HNX := Lib.hid (lastAt_succ hx)
      have hk0 : (0 : Int) ≤ (q : Int) := by omega
      have hk1 : (q : Int) < (nl : Int) := by omega
      clear hcell hx
      generalize lastAt L q = la at *
      by_cases c1 : x ≤ la
      · have HE : Hid (riseB n (-1) L = false) := Lib.hid (by rw [HR2.out, if_pos (Or.inl c1)])
        go_wp2
        go_ret
        exact ⟨by rw [HE.out]; rfl, HBL.out⟩
      · by_cases c2 : n ≤ x
        · have HE : Hid (riseB n (-1) L = false) := Lib.hid (by rw [HR2.out, if_pos (Or.inr c2)])
          go_wp2
          go_ret
          exact ⟨by rw [HE.out]; rfl, HBL.out⟩
        · have HE := Lib.hid (HR2.out.trans (if_neg (by omega)))
          go_wp2
          go_roundg (nl - (q + 1))
          case measure => omega
          case rel => exact ⟨q + 1, by omega, rfl, by go_num, by rw [HNX.out], HBL.out, HE.out⟩
    · have hqe : nl = q := by omega
      subst hqe
      have HE : Hid (riseB n (-1) L = true) := Lib.hid (by rw [HRE.out, ← HL.out]; exact riseB_end)
      go_wp2
      go_ret
      exact ⟨by rw [HE.out]; rfl, HBL.out⟩
-- RISE
set_option maxHeartbeats 8000000 in
set_option maxRecDepth 100000 in
theorem rise_any (w : World) (v : Value) (L : List Int) (n : Int) (hv : RowE 1 encI w v L) :
    Calls Try.prog 40 #[v, .int .i64 n] w fun e w' => e = .returned (.bool (riseB n (-1) L)) ∧ Below w.heap.size w w' := by
  have hm := hv.len
  unfold maxLen at hm
  obtain ⟨A, c, rfl, _, _, hA⟩ := hv
  have HA := Lib.hid hA
  clear hA
  obtain ⟨nl, hl⟩ : ∃ nl, L.length = nl := ⟨_, rfl⟩
  rw [hl] at hm ⊢
  have HL := Lib.hid hl
  clear hl
  go_enter Try.func40, Try.ntmps40
  go_wp2
  go_loopg [5] nl (fun j iv wx => ∃ q : Nat, q ≤ nl ∧ j = nl - q ∧ iv = .int .i64 q ∧ Below w.heap.size w wx ∧ -1 ≤ lastAt L q ∧ riseB n (-1) L = riseB n (lastAt L q) (L.drop q))
  case atStart => exact ⟨0, Nat.zero_le _, rfl, rfl, Below.refl _ _, by unfold lastAt; simp, rfl⟩
  case round =>
    obtain ⟨q, hq, hgk, rfl, hbl, hla, hre⟩ := hrel
    subst hgk
    have HBL := Lib.hid hbl
    have HRE := Lib.hid hre
    clear hbl hre
    by_cases hlt : q < nl
    · obtain ⟨x, hx⟩ : ∃ x, L[q]? = some x := ⟨_, List.getElem?_eq_getElem (by rw [HL.out]; exact hlt)⟩
      obtain ⟨b, off, rfl, hb, hcell⟩ := HA.out q x hx
      have h0 := (HBL.out.cell (p := ⟨b, off + (q * 1 + 0), none⟩) hb).trans (hcell 0 _ rfl)
      simp only [Nat.add_zero, Nat.mul_one] at h0
      have HCL : Hid (∀ wz, Below wr.heap.size wr wz → wz.cell? ⟨b, off + q, none⟩ = some (.int .i64 x)) := Lib.hid (fun wz hz => (hz.cell (p := ⟨b, off + q, none⟩) (by have := HBL.out.size; show b < wr.heap.size; omega)).trans h0)
      have HR2 := Lib.hid (HRE.out.trans (riseB_at hx))
      have HNX := Lib.hid (lastAt_succ hx)
      have hk0 : (0 : Int) ≤ (q : Int) := by omega
      have hk1 : (q : Int) < (nl : Int) := by omega
      clear hcell hx h0
      by_cases h1 : x < 0
      · have HE : Hid (riseB n (-1) L = false) := Lib.hid (by rw [HR2.out, if_pos (Or.inl (by omega))])
        go_upto_region 4 with (fail)
        refine wp_region_quiet (C := fun wz => Below wr.heap.size wr wz) (by kernel_rfl) (by kernel_rfl) (Below.refl _ _).drew ?_
        simp only
        repeat
          first
            | go_big_quiet_skip
            | (refine wpQuiet_step (fun K hK => ?_)
               rw [if_pos (by rfl)]
               unfold Oper.quiet
               apply Exists.intro
               refine And.intro (fun wx hWx => ?_) (hK _ ?_)
               · have c0 := HCL.out wx hWx
                 first
                   | (go_simp; exact rfl)
               clear hK K
               try simp only [Act.put, zA, zB, zC])
        refine wpQuiet_nil ?_
        intro w5 hW5
        have HBD := Lib.hid (bt HBL.out (by have := HBL.out.size; omega) hW5)
        clear hW5
        go_wp2
        go_ret
        exact ⟨by rw [HE.out]; rfl, HBD.out⟩
      · by_cases h2 : n ≤ x
        · have HE : Hid (riseB n (-1) L = false) := Lib.hid (by rw [HR2.out, if_pos (Or.inr h2)])
          go_upto_region 4 with (fail)
          refine wp_region_quiet (C := fun wz => Below wr.heap.size wr wz) (by kernel_rfl) (by kernel_rfl) (Below.refl _ _).drew ?_
          simp only
          repeat
            first
              | go_big_quiet_skip
              | (refine wpQuiet_step (fun K hK => ?_)
                 rw [if_pos (by rfl)]
                 unfold Oper.quiet
                 apply Exists.intro
                 refine And.intro (fun wx hWx => ?_) (hK _ ?_)
                 · have c0 := HCL.out wx hWx
                   first
                     | (go_simp; exact rfl)
                 clear hK K
                 try simp only [Act.put, zA, zB, zC])
          refine wpQuiet_nil ?_
          intro w5 hW5
          have HBD := Lib.hid (bt HBL.out (by have := HBL.out.size; omega) hW5)
          clear hW5
          go_wp2
          go_ret
          exact ⟨by rw [HE.out]; rfl, HBD.out⟩
        · by_cases h3 : q = 0
          · have hnx := HNX.out
            have hl0 : lastAt L q = -1 := by rw [h3]; rfl
            have HE := Lib.hid (HR2.out.trans (if_neg (by omega)))
            have hng : ¬ (0 : Int) < (q : Int) := by omega
            have hng2 : ¬ 0 < q := by omega
            clear h3 hl0
            go_upto_region 4 with (fail)
            refine wp_region_quiet (C := fun wz => Below wr.heap.size wr wz) (by kernel_rfl) (by kernel_rfl) (Below.refl _ _).drew ?_
            simp only
            repeat
              first
                | go_big_quiet_skip
                | (refine wpQuiet_step (fun K hK => ?_)
                   rw [if_pos (by rfl)]
                   unfold Oper.quiet
                   apply Exists.intro
                   refine And.intro (fun wx hWx => ?_) (hK _ ?_)
                   · have c0 := HCL.out wx hWx
                     first
                       | (go_simp; exact rfl)
                   clear hK K
                   try simp only [Act.put, zA, zB, zC])
            refine wpQuiet_nil ?_
            intro w5 hW5
            have HBD := Lib.hid (bt HBL.out (by have := HBL.out.size; omega) hW5)
            clear hW5
            go_wp2
            go_roundg (nl - (q + 1))
            case measure => omega
            case rel => exact ⟨q + 1, by omega, rfl, by go_num, HBD.out, by omega, HE.out⟩
          · obtain ⟨y, hy⟩ : ∃ y, L[q - 1]? = some y := ⟨_, List.getElem?_eq_getElem (by rw [HL.out]; omega)⟩
            have hly : lastAt L q = y := by
              have h5 := lastAt_succ hy
              rw [Nat.sub_add_cancel (by omega)] at h5
              exact h5
            obtain ⟨b2, off2, he2, hb2, hcell2⟩ := HA.out (q - 1) y hy
            simp only [Option.some.injEq, Addr.mk.injEq] at he2
            obtain ⟨rfl, rfl, -⟩ := he2
            have h0 := (HBL.out.cell (p := ⟨b, off + ((q - 1) * 1 + 0), none⟩) hb2).trans (hcell2 0 _ rfl)
            simp only [Nat.add_zero, Nat.mul_one] at h0
            obtain ⟨p, hp⟩ : ∃ p, q - 1 = p := ⟨_, rfl⟩
            rw [hp] at h0
            have HCM : Hid (∀ wz, Below wr.heap.size wr wz → wz.cell? ⟨b, off + q, none⟩ = some (.int .i64 x) ∧ wz.cell? ⟨b, off + p, none⟩ = some (.int .i64 y)) := Lib.hid (fun wz hz => ⟨HCL.out wz hz, (hz.cell (p := ⟨b, off + p, none⟩) (by have := HBL.out.size; show b < wr.heap.size; omega)).trans h0⟩)
            have hgt : (0 : Int) < (q : Int) := by omega
            have hw1 : IntKind.i64.wrap ((q : Int) - 1) = (p : Int) := by rw [IntKind.wrap_i64]; omega
            have hk2 : (0 : Int) ≤ (p : Int) := by omega
            have hk3 : (p : Int) < (nl : Int) := by omega
            have hk4 : p < nl := by omega
            have hgt2 : 0 < q := by omega
            clear hcell2 hy h0 hb2 hp
            by_cases h4 : x ≤ y
            · have HE : Hid (riseB n (-1) L = false) := Lib.hid (by rw [HR2.out, if_pos (Or.inl (by omega))])
              go_upto_region 4 with (fail)
              refine wp_region_quiet (C := fun wz => Below wr.heap.size wr wz) (by kernel_rfl) (by kernel_rfl) (Below.refl _ _).drew ?_
              simp only
              repeat
                first
                  | go_big_quiet_skip
                  | (refine wpQuiet_step (fun K hK => ?_)
                     rw [if_pos (by rfl)]
                     unfold Oper.quiet
                     apply Exists.intro
                     refine And.intro (fun wx hWx => ?_) (hK _ ?_)
                     · obtain ⟨c0, c1⟩ := HCM.out wx hWx
                       first
                         | (go_simp; exact rfl)
                     clear hK K
                     try simp only [Act.put, zA, zB, zC])
              refine wpQuiet_nil ?_
              intro w5 hW5
              have HBD := Lib.hid (bt HBL.out (by have := HBL.out.size; omega) hW5)
              clear hW5
              go_wp2
              go_ret
              exact ⟨by rw [HE.out]; rfl, HBD.out⟩
            · have hnx := HNX.out
              have HE := Lib.hid (HR2.out.trans (if_neg (by omega)))
              go_upto_region 4 with (fail)
              refine wp_region_quiet (C := fun wz => Below wr.heap.size wr wz) (by kernel_rfl) (by kernel_rfl) (Below.refl _ _).drew ?_
              simp only
              repeat
                first
                  | go_big_quiet_skip
                  | (refine wpQuiet_step (fun K hK => ?_)
                     rw [if_pos (by rfl)]
                     unfold Oper.quiet
                     apply Exists.intro
                     refine And.intro (fun wx hWx => ?_) (hK _ ?_)
                     · obtain ⟨c0, c1⟩ := HCM.out wx hWx
                       first
                         | (go_simp; exact rfl)
                     clear hK K
                     try simp only [Act.put, zA, zB, zC])
              refine wpQuiet_nil ?_
              intro w5 hW5
              have HBD := Lib.hid (bt HBL.out (by have := HBL.out.size; omega) hW5)
              clear hW5
              go_wp2
              go_roundg (nl - (q + 1))
              case measure => omega
              case rel => exact ⟨q + 1, by omega, rfl, by go_num, HBD.out, by omega, HE.out⟩
    · have hqe : nl = q := by omega
      subst hqe
      have HE : Hid (riseB n (-1) L = true) := Lib.hid (by rw [HRE.out, ← HL.out]; exact riseB_end)
      go_wp2
      go_ret
      exact ⟨by rw [HE.out]; rfl, HBL.out⟩
end Go.Proofs.Ytagffmalmkcboaa

namespace Go.Proofs.Ytagffmalmkcboaa
open Go.RowKit Go.Maps

def putS : List Bool → List Int → List Bool → List Bool
  | T, p :: r, q :: s => putS (T.set p.toNat q) r s
  | T, _, _ => T
theorem putS_at {U : List Bool} {P : List Int} {Q : List Bool} {k : Nat} {p : Int} {q : Bool} (h : P[k]? = some p) (h' : Q[k]? = some q) : putS U (P.drop k) (Q.drop k) = putS (U.set p.toNat q) (P.drop (k + 1)) (Q.drop (k + 1)) := by
  rw [List.drop_eq_getElem_cons (List.getElem?_eq_some_iff.1 h).1, (List.getElem?_eq_some_iff.1 h).2, List.drop_eq_getElem_cons (List.getElem?_eq_some_iff.1 h').1, (List.getElem?_eq_some_iff.1 h').2]
  rfl
theorem putS_end {U : List Bool} {P : List Int} {Q : List Bool} : putS U (P.drop P.length) Q = U := by
  rw [List.drop_length]
  unfold putS
  rfl
theorem putS_len : ∀ (P : List Int) (Q U : List Bool), (putS U P Q).length = U.length
  | [], _, _ => by unfold putS; rfl
  | _ :: _, [], _ => by unfold putS; rfl
  | p :: r, q :: s, U => by
    unfold putS
    rw [putS_len r s, List.length_set]

set_option maxHeartbeats 8000000 in
set_option maxRecDepth 100000 in
theorem put_any (w0 w : World) (g n : Nat) (T : List Bool) (pv tv : Value) (P : List Int) (Q : List Bool) (hb : Below w0.heap.size w0 w) (hg : w0.heap.size ≤ g) (hT : Tab w g T) (hn : T.length = n) (hP : RowE 1 encI w0 pv P) (hQ : RowE 1 encO w0 tv Q) (hPb : ∀ p ∈ P, 0 ≤ p ∧ p < n) (hPQ : P.length ≤ Q.length) :
    Calls Try.prog 77 #[.slice (some ⟨g, 0, none⟩) n n, pv, tv] w fun e w' => e = .returned (.tuple #[]) ∧ w.grownBy w' (some g) ∧ Tab w' g (putS T P Q) := by
  have hm := hQ.len
  unfold maxLen at hm
  have HG := Lib.hid hg
  have HBW : Hid (∀ wx, w.grownBy wx (some g) → Below w0.heap.size w0 wx) := Lib.hid (fun wx h => hb.grown h hb.size (fun k hk => by cases hk; exact HG.out))
  obtain ⟨A, c, rfl, _, _, hA⟩ := hP
  obtain ⟨A2, c2, rfl, _, _, hA2⟩ := hQ
  have HA := Lib.hid hA
  have HA2 := Lib.hid hA2
  have HT := Lib.hid hT
  have HN := Lib.hid hn
  have HPB := Lib.hid hPb
  clear hA hA2 hb hg hT hn hPb
  obtain ⟨nl, hl⟩ : ∃ nl, P.length = nl := ⟨_, rfl⟩
  obtain ⟨ml, hl2⟩ : ∃ ml, Q.length = ml := ⟨_, rfl⟩
  rw [hl, hl2] at hPQ
  rw [hl2] at hm
  rw [hl, hl2]
  have HL := Lib.hid hl
  have HL2 := Lib.hid hl2
  clear hl hl2
  go_enter Try.func77, Try.ntmps77
  go_wp2
  go_loopg [10] nl (fun j iv wx => ∃ (q : Nat) (U : List Bool), q ≤ nl ∧ j = nl - q ∧ iv = .int .i64 q ∧ w.grownBy wx (some g) ∧ Tab wx g U ∧ U.length = n ∧ putS T P Q = putS U (P.drop q) (Q.drop q))
  case atStart => exact ⟨0, _, Nat.zero_le _, rfl, rfl, World.grownBy.refl w _, HT.out, HN.out, rfl⟩
  case round =>
    obtain ⟨q, U, hq, hgk, rfl, hbl, hu, hul, hre⟩ := hrel
    subst hgk
    have HBL := Lib.hid hbl
    have HU := Lib.hid hu
    have HUL := Lib.hid hul
    have HRE := Lib.hid hre
    clear hbl hu hul hre
    by_cases hlt : q < nl
    · obtain ⟨x, hx⟩ : ∃ x, P[q]? = some x := ⟨_, List.getElem?_eq_getElem (by rw [HL.out]; exact hlt)⟩
      obtain ⟨y, hy⟩ : ∃ y, Q[q]? = some y := ⟨_, List.getElem?_eq_getElem (by rw [HL2.out]; omega)⟩
      obtain ⟨b, off, rfl, hb, hcell⟩ := HA.out q x hx
      obtain ⟨b2, off2, rfl, hb2, hcell2⟩ := HA2.out q y hy
      have h0 := ((HBW.out _ HBL.out).cell (p := ⟨b, off + (q * 1 + 0), none⟩) hb).trans (hcell 0 _ rfl)
      have h2 := ((HBW.out _ HBL.out).cell (p := ⟨b2, off2 + (q * 1 + 0), none⟩) hb2).trans (hcell2 0 _ rfl)
      simp only [Nat.add_zero, Nat.mul_one] at h0 h2
      obtain ⟨hx0, hx1⟩ := HPB.out x (List.mem_of_getElem? hx)
      have HR2 := Lib.hid (HRE.out.trans (putS_at hx hy))
      have hk0 : (0 : Int) ≤ (q : Int) := by omega
      have hk1 : (q : Int) < (nl : Int) := by omega
      have hk2 : (q : Int) < (ml : Int) := by omega
      obtain ⟨z, hz⟩ : ∃ z, U[x.toNat]? = some z := ⟨_, List.getElem?_eq_getElem (by rw [HUL.out]; omega)⟩
      have hcz := HU.out.cell hz
      have hfa := Blk.frozen HU.out x.toNat
      have hla := Blk.lt HU.out
      have HUN := Lib.hid (HU.out.set_ x.toNat y)
      have HBN := Lib.hid (only_setL HBL.out x.toNat (.bool y))
      have HLN : Hid ((U.set x.toNat y).length = n) := Lib.hid (by rw [List.length_set]; exact HUL.out)
      clear hcell hcell2 hx hy hz hb hb2
      go_wp2
      go_roundg (nl - (q + 1))
      case measure => omega
      case rel => exact ⟨q + 1, _, by omega, rfl, by go_num, HBN.out, HUN.out, HLN.out, HR2.out⟩
    · have hqe : nl = q := by omega
      subst hqe
      have HE : Hid (putS T P Q = U) := Lib.hid (by rw [HRE.out, ← HL.out]; exact putS_end)
      go_wp2
      go_end0
      exact ⟨rfl, HBL.out, by rw [HE.out]; exact HU.out⟩
end Go.Proofs.Ytagffmalmkcboaa

namespace Go.Proofs.Ytagffmalmkcboaa
open Go.RowKit Go.Maps

def fitC (nl ni : Nat) (t : Tr) : Bool := decide (t.init.length = nl) && (decide (t.rows.length ≤ 512) && t.rows.all fun r => decide (r.length = ni))
theorem fitC_row {nl ni : Nat} {t : Tr} {r : List Bool} (h : r ∈ t.rows) (hr : r.length ≠ ni) : fitC nl ni t = false := by
  have : (t.rows.all fun r => decide (r.length = ni)) = false := by
    rw [List.all_eq_false]
    exact ⟨r, h, by simpa using hr⟩
  unfold fitC
  rw [this]
  simp
theorem fitC_ok {nl ni : Nat} {t : Tr} (h1 : t.init.length = nl) (h2 : t.rows.length ≤ 512) (h3 : ∀ r ∈ t.rows, r.length = ni) : fitC nl ni t = true := by
  unfold fitC
  simp only [h1, h2, decide_true, Bool.true_and, List.all_eq_true, decide_eq_true_eq]
  exact h3

set_option maxHeartbeats 8000000 in
set_option maxRecDepth 100000 in
theorem fits_any (w : World) (X : CV) (mx k : Int) (lv iv tv : Value) (I T : List Int) (U : TV) (t : Tr) (hi : RowE 1 encI w iv I) (ht : RowE 1 encI w tv T) (hu : t.In w U) :
    Calls Try.prog 38 #[.agg (cutCells X mx lv iv tv), U.val k] w fun e w' => e = .returned (.bool (fitC T.length I.length t)) ∧ Below w.heap.size w w' := by
  obtain ⟨W1, hW1⟩ : ∃ W1, (w.alloc (.cells (cutCells X mx lv iv tv) 34)).alloc (.cells (U.cells k) 49) = W1 := ⟨_, rfl⟩
  have HW1 := Lib.hid hW1
  have hb0 : Below w.heap.size w W1 := by rw [← hW1]; exact ((Below.refl _ _).alloc (Nat.le_refl _) _).alloc (by simp) _
  have hbx0 : Blk W1 w.heap.size 34 (cutCells X mx lv iv tv) := by rw [← hW1]; exact (Blk.new w _ _).alloc _
  have hbx1 : Blk W1 (w.heap.size + 1) 49 (U.cells k) := by
    rw [← hW1]
    have := Blk.new (w.alloc (.cells (cutCells X mx lv iv tv) 34)) 49 (U.cells k)
    rwa [show (w.alloc (.cells (cutCells X mx lv iv tv) 34)).heap.size = w.heap.size + 1 by simp] at this
  obtain ⟨Ui, Ur⟩ := U
  obtain ⟨iA, ic, rfl, _⟩ := hi
  obtain ⟨tA, tc, rfl, _⟩ := ht
  obtain ⟨sA, sc, hse, _⟩ := hu.i
  obtain ⟨rA, rc, hre, hr0, hrows⟩ := hu.r.at_
  simp only at hse hre
  subst hse hre
  have HR := Lib.hid hrows
  have c1 := hbx1.cell 0
  have c2 := hbx1.cell 1
  have c3 := hbx0.cell 12
  have c4 := hbx0.cell 13
  simp only [List.getElem?_toArray, List.getElem?_cons_zero, List.getElem?_cons_succ] at c1 c2 c3 c4
  have HB := Lib.hid hb0
  clear hu hrows hbx0 hbx1 hW1 hb0
  obtain ⟨init, rows, loop⟩ := t
  simp only at *
  obtain ⟨ni, hni⟩ : ∃ n, I.length = n := ⟨_, rfl⟩
  obtain ⟨nt, hnt⟩ : ∃ n, T.length = n := ⟨_, rfl⟩
  obtain ⟨ns, hns⟩ : ∃ n, init.length = n := ⟨_, rfl⟩
  obtain ⟨nr, hnr⟩ : ∃ n, rows.length = n := ⟨_, rfl⟩
  rw [hni] at HW1 c3 ⊢
  rw [hnt] at HW1 c4 ⊢
  rw [hns] at HW1 c1 ⊢
  rw [hnr] at HW1 c2 ⊢
  have HNS := Lib.hid hns
  have HNR := Lib.hid hnr
  clear hni hnt hns hnr
  simp only [TV.cells] at HW1
  by_cases h1 : nt = ns
  · subst h1
    by_cases h2 : nr ≤ 512
    · have h2i : ¬ (512 : Int) < (nr : Int) := by omega
      go_enter Try.func38, Try.ntmps38
      go_upto_region 1 with (fail)
      rw [HW1.out]
      go_wp2
      go_loopg [23] nr (fun j iv wx => ∃ q : Nat, q ≤ nr ∧ j = nr - q ∧ iv = .int .i64 q ∧ wx = W1 ∧ (∀ (i : Nat) (r : List Bool), i < q → rows[i]? = some r → r.length = ni))
      case atStart => exact ⟨0, Nat.zero_le _, rfl, rfl, rfl, fun i r h => absurd h (Nat.not_lt_zero _)⟩
      case round =>
        obtain ⟨q, hq, hgk, rfl, hwx, hall⟩ := hrel
        subst hgk
        rw [hwx]
        have HALL := Lib.hid hall
        clear hall
        by_cases hlt : q < nr
        · obtain ⟨r, hr⟩ : ∃ r, rows[q]? = some r := ⟨_, List.getElem?_eq_getElem (by rw [HNR.out]; exact hlt)⟩
          obtain ⟨b, off, u, hbe, hb, hc, hru⟩ := HR.out q r hr
          obtain ⟨uA, uc, rfl, _⟩ := hru
          subst hbe
          have h0 := (HB.out.cell (p := ⟨b, off + q, none⟩) hb).trans hc
          obtain ⟨nu, hnu⟩ : ∃ n, r.length = n := ⟨_, rfl⟩
          rw [hnu] at h0
          have hk0 : (0 : Int) ≤ (q : Int) := by omega
          have hk1 : (q : Int) < (nr : Int) := by omega
          have HX := Lib.hid hr
          have HNU := Lib.hid hnu
          clear hr hc hnu
          by_cases h3 : nu = ni
          · have h3i : (nu : Int) = (ni : Int) := by omega
            have HAN : Hid (∀ (i : Nat) (r : List Bool), i < q + 1 → rows[i]? = some r → r.length = ni) := Lib.hid (fun i r' hi hr' => by
              by_cases e : i = q
              · subst e
                rw [HX.out] at hr'
                obtain rfl := Option.some.inj hr'
                rw [HNU.out]
                exact h3
              · exact HALL.out i r' (by omega) hr')
            go_wp2
            go_roundg (nr - (q + 1))
            case measure => omega
            case rel => exact ⟨q + 1, by omega, rfl, by go_num, rfl, HAN.out⟩
          · have HE : Hid (fitC nt ni ⟨init, rows, loop⟩ = false) := Lib.hid (fitC_row (t := ⟨init, rows, loop⟩) (List.mem_of_getElem? HX.out) (by rw [HNU.out]; exact h3))
            have h3i : ¬ (nu : Int) = (ni : Int) := by omega
            go_wp2
            go_ret
            exact ⟨by rw [HE.out]; rfl, HB.out⟩
        · have hqe : nr = q := by omega
          subst hqe
          have HE : Hid (fitC nt ni ⟨init, rows, loop⟩ = true) := Lib.hid (fitC_ok (by show init.length = nt; exact HNS.out) (by show rows.length ≤ 512; rw [HNR.out]; exact h2) (fun r hr => by
            obtain ⟨i, hi⟩ := List.mem_iff_getElem?.1 hr
            exact HALL.out i r (by rw [← HNR.out]; exact (List.getElem?_eq_some_iff.1 hi).1) hi))
          go_wp2
          go_ret
          exact ⟨by rw [HE.out]; rfl, HB.out⟩
    · have HE : Hid (fitC nt ni ⟨init, rows, loop⟩ = false) := Lib.hid (by unfold fitC; simp only [HNR.out, h2, decide_false, Bool.false_and, Bool.and_false])
      have h2i : (512 : Int) < (nr : Int) := by omega
      go_enter Try.func38, Try.ntmps38
      go_upto_region 1 with (fail)
      rw [HW1.out]
      go_wp2
      go_ret
      exact ⟨by rw [HE.out]; rfl, HB.out⟩
  · have HE : Hid (fitC nt ni ⟨init, rows, loop⟩ = false) := Lib.hid (by unfold fitC; simp only [HNS.out, show ¬ ns = nt from fun e => h1 e.symm, decide_false, Bool.false_and])
    have h1i : ¬ (ns : Int) = (nt : Int) := by omega
    go_enter Try.func38, Try.ntmps38
    go_upto_region 1 with (fail)
    rw [HW1.out]
    go_wp2
    go_ret
    exact ⟨by rw [HE.out]; rfl, HB.out⟩
end Go.Proofs.Ytagffmalmkcboaa
