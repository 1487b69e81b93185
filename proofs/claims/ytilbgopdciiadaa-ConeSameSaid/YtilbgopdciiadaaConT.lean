/- Cone: rising numbers: the program's areNumbers and the document's rise. -/
import Derived.Test.YtilbgopdciiadaaConC
import Derived.BigQuiet
import Derived.Deep.Quiet
namespace Go.Proofs.Ytilbgopdciiadaa
open Go.RowKit Go.Maps

/-- Numbers below n that rise, from behind the last one. -/
def riseB (n : Int) : Int → List Int → Bool
  | _, [] => true
  | k, x :: r => if x ≤ k ∨ n ≤ x then false else riseB n x r
/-- The number ahead of place q. -/
def lastAt (L : List Int) (q : Nat) : Int := if q = 0 then -1 else L.getD (q - 1) 0
theorem lastAt_succ {L : List Int} {q : Nat} {x : Int} (h : L[q]? = some x) : lastAt L (q + 1) = x := by
  unfold lastAt
  rw [if_neg (by omega), List.getD_eq_getElem?_getD, Nat.add_sub_cancel, h]
  rfl
theorem riseB_at {L : List Int} {n : Int} {q : Nat} {x : Int} (h : L[q]? = some x) : riseB n (lastAt L q) (L.drop q) = if x ≤ lastAt L q ∨ n ≤ x then false else riseB n (lastAt L (q + 1)) (L.drop (q + 1)) := by
  have hq := (List.getElem?_eq_some_iff.1 h).1
  rw [lastAt_succ h, List.drop_eq_getElem_cons hq, (List.getElem?_eq_some_iff.1 h).2]
  rfl
theorem riseB_end {L : List Int} {n : Int} : riseB n (lastAt L L.length) (L.drop L.length) = true := by
  rw [List.drop_length]
  rfl

set_option maxHeartbeats 8000000 in
set_option maxRecDepth 100000 in
theorem areNumbers_any (w : World) (v : Value) (L : List Int) (n : Int) (hv : RowE 1 encI w v L) :
    Calls Try.prog 59 #[v, .int .i64 n] w fun e w' => e = .returned (.bool (riseB n (-1) L)) ∧ Below w.heap.size w w' := by
  have hm := hv.len
  unfold maxLen at hm
  obtain ⟨A, c, rfl, _, _, hA⟩ := hv
  have HA := Lib.hid hA
  clear hA
  obtain ⟨nl, hl⟩ : ∃ nl, L.length = nl := ⟨_, rfl⟩
  rw [hl] at hm ⊢
  have HL := Lib.hid hl
  clear hl
  go_enter Try.func59, Try.ntmps59
  go_wp2
  go_loopg [5, 10] nl (fun j lv iv wx => ∃ q : Nat, q ≤ nl ∧ j = nl - q ∧ iv = .int .i64 q ∧ lv = .int .i64 (lastAt L q) ∧ Below w.heap.size w wx ∧ riseB n (-1) L = riseB n (lastAt L q) (L.drop q))
  case atStart => exact ⟨0, Nat.zero_le _, rfl, rfl, rfl, Below.refl _ _, rfl⟩
  case round =>
    obtain ⟨q, hq, hgk, rfl, rfl, hbl, hre⟩ := hrel
    subst hgk
    have HBL := Lib.hid hbl
    have HRE := Lib.hid hre
    clear hbl hre
    by_cases hlt : q < nl
    · obtain ⟨x, hx⟩ : ∃ x, L[q]? = some x := ⟨_, List.getElem?_eq_getElem (by rw [HL.out]; exact hlt)⟩
      obtain ⟨b, off, rfl, hb, hcell⟩ := HA.out q x hx
      have h0 := (HBL.out.cell (p := ⟨b, off + (q * 1 + 0), none⟩) hb).trans (hcell 0 _ rfl)
      simp only [Nat.add_zero, Nat.mul_one] at h0
      have HR2 := Lib.hid (HRE.out.trans (riseB_at hx))
      have HNX := Lib.hid (lastAt_succ hx)
      have hk0 : (0 : Int) ≤ (q : Int) := by omega
      have hk1 : (q : Int) < (nl : Int) := by omega
      clear hcell hx
      generalize lastAt L q = la at *
      by_cases c1 : x ≤ la
      · have HE : Hid (riseB n (-1) L = false) := Lib.hid (by rw [HR2.out, if_pos (Or.inl c1)])
        go_wp2
        go_ret
        exact ⟨by rw [HE.out]; rfl, HBL.out⟩
      · by_cases c2 : n ≤ x
        · have HE : Hid (riseB n (-1) L = false) := Lib.hid (by rw [HR2.out, if_pos (Or.inr c2)])
          go_wp2
          go_ret
          exact ⟨by rw [HE.out]; rfl, HBL.out⟩
        · have HE := Lib.hid (HR2.out.trans (if_neg (by omega)))
          go_wp2
          go_roundg (nl - (q + 1))
          case measure => omega
          case rel => exact ⟨q + 1, by omega, rfl, by go_num, by rw [HNX.out], HBL.out, HE.out⟩
    · have hqe : nl = q := by omega
      subst hqe
      have HE : Hid (riseB n (-1) L = true) := Lib.hid (by rw [HRE.out, ← HL.out]; exact riseB_end)
      go_wp2
      go_ret
      exact ⟨by rw [HE.out]; rfl, HBL.out⟩
-- RISE
end Go.Proofs.Ytilbgopdciiadaa
