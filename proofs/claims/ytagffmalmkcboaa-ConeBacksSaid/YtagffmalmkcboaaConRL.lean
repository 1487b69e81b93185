/- Cone: the document's Lemma. -/
import Derived.Test.YtagffmalmkcboaaConE
import Derived.Test.YtagffmalmkcboaaConH
import Derived.Test.YtagffmalmkcboaaTrnF
namespace Go.Proofs.Ytagffmalmkcboaa
open Go.RowKit Go.Maps

def orgBad (F : List Int) (l : Int) : Prop := l < 0 ∨ l % 2 = 1 ∨ 32768 < l ∨ F.getD (l / 2).toNat 0 ≠ -1
instance (F : List Int) (l : Int) : Decidable (orgBad F l) := by unfold orgBad; exact inferInstance
def orgS : List Int → Nat → List Int → Option (List Int)
  | F, _, [] => some F
  | F, v, l :: r => if l = -1 ∨ l = 0 then orgS F (v + 1) r else if orgBad F l then none else orgS (F.set (l / 2).toNat v) (v + 1) r
def orgF (m : Nat) (L : List Int) : Option (List Int) := if L.length = m + 1 then orgS (List.replicate 16385 (-1)) 0 L else none
theorem orgS_at {F L : List Int} {q v : Nat} {l : Int} (h : L[q]? = some l) : orgS F v (L.drop q) = if l = -1 ∨ l = 0 then orgS F (v + 1) (L.drop (q + 1)) else if orgBad F l then none else orgS (F.set (l / 2).toNat v) (v + 1) (L.drop (q + 1)) := by
  have hq := (List.getElem?_eq_some_iff.1 h).1
  rw [List.drop_eq_getElem_cons hq, (List.getElem?_eq_some_iff.1 h).2]
  rfl
theorem orgS_end {F L : List Int} {v : Nat} : orgS F v (L.drop L.length) = some F := by
  rw [List.drop_length]
  rfl
def Orgs (w : World) (B : Nat) (o : Option (List Int)) (v b : Value) : Prop :=
  match o with
  | none => v = .slice none 0 0 ∧ b = .bool false
  | some F => ∃ g, v = .slice (some ⟨g, 0, none⟩) 16385 16385 ∧ B ≤ g ∧ Nums w g F ∧ F.length = 16385 ∧ b = .bool true

set_option maxHeartbeats 8000000 in
set_option maxRecDepth 100000 in
theorem originsOf_any (w : World) (v : Value) (L : List Int) (m : Nat) (hm16 : m ≤ 16384) (hv : RowE 1 encI w v L) :
    Calls Try.prog 41 #[v, .int .i64 m] w fun e w' => Below w.heap.size w w' ∧ ∃ r b, e = .returned (.tuple #[r, b]) ∧ Orgs w' w.heap.size (orgF m L) r b := by
  have hm := hv.len
  unfold maxLen at hm
  obtain ⟨A, c, rfl, _, _, hA⟩ := hv
  have HA := Lib.hid hA
  clear hA
  obtain ⟨nl, hl⟩ : ∃ nl, L.length = nl := ⟨_, rfl⟩
  rw [hl] at hm ⊢
  have HL := Lib.hid hl
  clear hl
  have hwm : IntKind.i64.wrap ((m : Int) + 1) = (m : Int) + 1 := i64_small (by omega) (by omega)
  by_cases hne : nl = m + 1
  · have HOR : Hid (orgF m L = orgS (List.replicate 16385 (-1)) 0 L) := Lib.hid (by unfold orgF; rw [if_pos (by rw [HL.out]; exact hne)])
    rw [HOR.out]
    clear HOR
    have hlm : (nl : Int) = (m : Int) + 1 := by omega
    have hnl16 : nl ≤ 16385 := by omega
    have HB0 : Hid (Below w.heap.size w (w.alloc (.cells #[.int .i64 (-1)] 3))) := Lib.hid ((Below.refl _ _).alloc (Nat.le_refl _) _)
    have HREP := Lib.hid (repeat_any (w.alloc (.cells #[.int .i64 (-1)] 3)) w.heap.size 0 (-1) 16385 (by omega) ((Blk.new w 3 #[.int .i64 (-1)]).cell 0))
    have HF0 : Hid ((List.replicate 16385 (-1 : Int)).length = 16385) := Lib.hid List.length_replicate
    generalize List.replicate 16385 (-1 : Int) = F0 at *
    clear hne
    go_enter Try.func41, Try.ntmps41
    go_upto_region 5 with (go_at_call 78; refine HREP.out.mono ?_; rintro e w2 ⟨g, rfl, hg, hb2, hnu⟩; have HB2 := Lib.hid (bt HB0.out (by simp) hb2); have HG := Lib.hid (show w.heap.size ≤ g by have := hg; simp at this; omega); have HNU := Lib.hid hnu; clear hb2 hnu hg)
    clear HREP HB0
    go_wp2
    go_loopg [4, 17] nl (fun j fv iv wx => ∃ (q : Nat) (F : List Int), q ≤ nl ∧ j = nl - q ∧ fv = .slice (some ⟨g, 0, none⟩) 16385 16385 ∧ iv = .int .i64 q ∧ Below w.heap.size w wx ∧ Nums wx g F ∧ F.length = 16385 ∧ orgS F0 0 L = orgS F q (L.drop q))
    case atStart => exact ⟨0, _, Nat.zero_le _, rfl, rfl, rfl, HB2.out, HNU.out, HF0.out, rfl⟩
    case round =>
      obtain ⟨q, F, hq, hgk, rfl, rfl, hbl, hnu, hF, hre⟩ := hrel
      subst hgk
      have HBL := Lib.hid hbl
      have HRE := Lib.hid hre
      have HNU := Lib.hid hnu
      have HF := Lib.hid hF
      clear hbl hre hnu hF
      by_cases hlt : q < nl
      · obtain ⟨x, hx⟩ : ∃ x, L[q]? = some x := ⟨_, List.getElem?_eq_getElem (by rw [HL.out]; exact hlt)⟩
        obtain ⟨b, off, rfl, hb, hcell⟩ := HA.out q x hx
        have h0 := (HBL.out.cell (p := ⟨b, off + (q * 1 + 0), none⟩) hb).trans (hcell 0 _ rfl)
        simp only [Nat.add_zero, Nat.mul_one] at h0
        have HR2 := Lib.hid (HRE.out.trans (orgS_at hx))
        have hk0 : (0 : Int) ≤ (q : Int) := by omega
        have hk1 : (q : Int) < (nl : Int) := by omega
        clear hcell hx
        by_cases c1 : x = -1
        · have HE := Lib.hid (HR2.out.trans (if_pos (Or.inl c1)))
          subst c1
          go_wp2
          go_roundg (nl - (q + 1))
          case measure => omega
          case rel => exact ⟨q + 1, F, by omega, rfl, rfl, by go_num, HBL.out, HNU.out, HF.out, HE.out⟩
        · by_cases c2 : x = 0
          · have HE := Lib.hid (HR2.out.trans (if_pos (Or.inr c2)))
            subst c2
            go_wp2
            go_roundg (nl - (q + 1))
            case measure => omega
            case rel => exact ⟨q + 1, F, by omega, rfl, rfl, by go_num, HBL.out, HNU.out, HF.out, HE.out⟩
          · have HR3 := Lib.hid (HR2.out.trans (if_neg (by omega)))
            have hb1 : (x == (-1 : Int)) = false := by simpa using c1
            have hb2 : (x == (0 : Int)) = false := by simpa using c2
            by_cases c3 : x < 0
            · have HE : Hid (orgS F0 0 L = none) := Lib.hid (HR3.out.trans (if_pos (Or.inl c3)))
              go_wp2
              go_ret2
              exact ⟨HBL.out, _, _, rfl, by rw [HE.out]; exact ⟨rfl, rfl⟩⟩
            · have hx0 : 0 ≤ x := by omega
              have hrm : x.tmod 2 = x % 2 := Int.tmod_eq_emod_of_nonneg hx0
              have hrw : IntKind.i64.wrap (x % 2) = x % 2 := i64_small (by omega) (by omega)
              by_cases c4 : x % 2 = 1
              · have HE : Hid (orgS F0 0 L = none) := Lib.hid (HR3.out.trans (if_pos (Or.inr (Or.inl c4))))
                go_wp2
                go_ret2
                exact ⟨HBL.out, _, _, rfl, by rw [HE.out]; exact ⟨rfl, rfl⟩⟩
              · have hb4 : (x % 2 == (1 : Int)) = false := by simpa using c4
                by_cases c5 : 32768 < x
                · have HE : Hid (orgS F0 0 L = none) := Lib.hid (HR3.out.trans (if_pos (Or.inr (Or.inr (Or.inl c5)))))
                  go_wp2
                  go_ret2
                  exact ⟨HBL.out, _, _, rfl, by rw [HE.out]; exact ⟨rfl, rfl⟩⟩
                · have hqt := tdiv_nn (b := 2) hx0
                  have hq0 : 0 ≤ x / 2 := by omega
                  have hq1 : x / 2 < 16385 := by omega
                  have hq3 : IntKind.i64.wrap (x / 2) = x / 2 := i64_small (by omega) (by omega)
                  obtain ⟨y, hy⟩ : ∃ y, F[(x / 2).toNat]? = some y := ⟨_, List.getElem?_eq_getElem (by rw [HF.out]; omega)⟩
                  have hyd : F.getD (x / 2).toNat 0 = y := by rw [List.getD_eq_getElem?_getD, hy]; rfl
                  have hcy := HNU.out.cell hy
                  by_cases c6 : y = -1
                  · have HE := Lib.hid (HR3.out.trans (if_neg (by unfold orgBad; rw [hyd]; omega)))
                    have hfa := Blk.frozen HNU.out (x / 2).toNat
                    have hla := Blk.lt HNU.out
                    have HBN := Lib.hid (HBL.out.setCell HG.out (p := ⟨g, (x / 2).toNat, none⟩) (.int .i64 q))
                    have HNN := Lib.hid (HNU.out.set_ (x / 2).toNat (q : Int))
                    have HFN : Hid ((F.set (x / 2).toNat (q : Int)).length = 16385) := Lib.hid (by rw [List.length_set]; exact HF.out)
                    subst c6
                    clear hy hyd
                    go_wp2
                    go_roundg (nl - (q + 1))
                    case measure => omega
                    case rel => exact ⟨q + 1, _, by omega, rfl, rfl, by go_num, HBN.out, HNN.out, HFN.out, HE.out⟩
                  · have HE : Hid (orgS F0 0 L = none) := Lib.hid (HR3.out.trans (if_pos (Or.inr (Or.inr (Or.inr (by rw [hyd]; exact c6))))))
                    have hb6 : (y == (-1 : Int)) = false := by simpa using c6
                    clear hy hyd
                    go_wp2
                    go_ret2
                    exact ⟨HBL.out, _, _, rfl, by rw [HE.out]; exact ⟨rfl, rfl⟩⟩
      · have hqe : nl = q := by omega
        subst hqe
        have HE : Hid (orgS F0 0 L = some F) := Lib.hid (by rw [HRE.out, ← HL.out]; exact orgS_end)
        go_wp2
        go_ret2
        exact ⟨HBL.out, _, _, rfl, by rw [HE.out]; exact ⟨g, rfl, HG.out, HNU.out, HF.out, rfl⟩⟩
  · have HOR : Hid (orgF m L = none) := Lib.hid (by unfold orgF; rw [if_neg (by rw [HL.out]; exact hne)])
    rw [HOR.out]
    have hlm : ¬ (nl : Int) = (m : Int) + 1 := by omega
    clear hne
    go_enter Try.func41, Try.ntmps41
    go_wp2
    go_ret2
    exact ⟨Below.refl _ _, _, _, rfl, rfl, rfl⟩
end Go.Proofs.Ytagffmalmkcboaa

namespace Go.Proofs.Ytagffmalmkcboaa
open Go.RowKit Go.Maps

theorem orgS_bd {L : List Int} : ∀ {F G : List Int} {v : Nat}, orgS F v L = some G → (∀ y ∈ F, -1 ≤ y ∧ y ≤ 16384) → v + L.length ≤ 16385 → ∀ y ∈ G, -1 ≤ y ∧ y ≤ 16384 := by
  induction L with
  | nil =>
    intro F G v h hF _
    obtain rfl : F = G := Option.some.inj h
    exact hF
  | cons l r ih =>
    intro F G v h hF hv
    simp only [List.length_cons] at hv
    unfold orgS at h
    by_cases c1 : l = -1 ∨ l = 0
    · rw [if_pos c1] at h
      exact ih h hF (by omega)
    · rw [if_neg c1] at h
      by_cases c2 : orgBad F l
      · rw [if_pos c2] at h
        cases h
      · rw [if_neg c2] at h
        refine ih h (fun y hy => ?_) (by omega)
        rcases List.mem_or_eq_of_mem_set hy with hy | rfl
        · exact hF y hy
        · omega
theorem orgF_bd {m : Nat} {L G : List Int} (h : orgF m L = some G) (hm : m ≤ 16384) : ∀ y ∈ G, -1 ≤ y ∧ y ≤ 16384 := by
  unfold orgF at h
  by_cases e : L.length = m + 1
  · rw [if_pos e] at h
    exact orgS_bd h (fun y hy => by rw [List.eq_of_mem_replicate hy]; omega) (by omega)
  · rw [if_neg e] at h
    cases h
def lemBad (F : List Int) (k : Int) : Prop := k < 0 ∨ 16385 ≤ k / 2 ∨ F.getD (k / 2).toNat 0 = -1
instance (F : List Int) (k : Int) : Decidable (lemBad F k) := by unfold lemBad; exact inferInstance
def lemV (F : List Int) (k : Int) : Int := 2 * F.getD (k / 2).toNat 0 + k % 2
def lemF (F M : List Int) : Option (List Int) := if ∃ k ∈ M, lemBad F k then none else some (M.map (lemV F))
theorem lemF_bad {F M : List Int} {k : Int} (h : k ∈ M) (hb : lemBad F k) : lemF F M = none := by
  unfold lemF
  rw [if_pos ⟨k, h, hb⟩]
theorem lemF_ok {F M : List Int} (h : ∀ k ∈ M, ¬ lemBad F k) : lemF F M = some (M.map (lemV F)) := by
  unfold lemF
  rw [if_neg (fun ⟨k, hk, hb⟩ => h k hk hb)]
def Lem (w : World) (B : Nat) (o : Option (List Int)) (v b : Value) : Prop :=
  match o with
  | none => v = .slice none 0 0 ∧ b = .int .i64 5
  | some O => ∃ g, v = .slice (some ⟨g, 0, none⟩) O.length O.length ∧ B ≤ g ∧ Nums w g O ∧ b = .int .i64 0
theorem map_of_at {M O : List Int} {f : Int → Int} (hl : O.length = M.length) (h : ∀ (i : Nat) (k : Int), M[i]? = some k → O[i]? = some (f k)) : O = M.map f := by
  apply List.ext_getElem?
  intro i
  rw [List.getElem?_map]
  by_cases e : i < M.length
  · rw [List.getElem?_eq_getElem e, h i _ (List.getElem?_eq_getElem e)]
    rfl
  · rw [List.getElem?_eq_none (by omega), List.getElem?_eq_none (by omega)]
    rfl
theorem make_lem (n : Nat) (h : n ≤ 1000000) (wx : World) : (Instr.makeSlice 50 (.int .i64 (n : Int)) (.int .i64 (n : Int))).run Try.prog wx = .ok (.slice (some ⟨wx.heap.size, 0, none⟩) n n) (wx.alloc (.cells (madeCells #[Value.int .i64 0] n) 3)) := by
  obtain ⟨i0, hi0, hz0, hz1, hz2⟩ := info_of' int_info'
  have := run_make (P := Try.prog) wx 50 3 i0 (.int .i64 0) Try.underlying50 hi0 hz0 .i64 .i64 n n (by omega) (by omega) (by rw [hz2]; omega) (by omega)
  rw [hz1] at this
  simpa [Value.cells] using this

set_option maxHeartbeats 8000000 in
set_option maxRecDepth 100000 in
theorem lemmaOf_any (w : World) (g : Nat) (F : List Int) (u : Value) (M : List Int) (hF : Nums w g F) (hFl : F.length = 16385) (hFb : ∀ y ∈ F, -1 ≤ y ∧ y ≤ 16384) (hu : RowE 1 encI w u M) (hM : M.length ≤ 16384) (hMw : ∀ z ∈ M, I64 z) :
    Calls Try.prog 42 #[.slice (some ⟨g, 0, none⟩) 16385 16385, u] w fun e w' => Below w.heap.size w w' ∧ ∃ r b, e = .returned (.tuple #[r, b]) ∧ Lem w' w.heap.size (lemF F M) r b := by
  obtain ⟨A, c, rfl, _, _, hA⟩ := hu
  have HA := Lib.hid hA
  clear hA
  have HF := Lib.hid hF
  have HFL := Lib.hid hFl
  have HFB := Lib.hid hFb
  have HMW := Lib.hid hMw
  clear hF hFl hFb hMw
  obtain ⟨nl, hl⟩ : ∃ nl, M.length = nl := ⟨_, rfl⟩
  rw [hl] at hM ⊢
  have HL := Lib.hid hl
  clear hl
  have hmk := make_lem nl (by omega)
  have HGW := Lib.hid (Blk.lt HF.out)
  have HB0 : Hid (Below w.heap.size w (w.alloc (.cells (madeCells #[Value.int .i64 0] nl) 3))) := Lib.hid ((Below.refl _ _).alloc (Nat.le_refl _) _)
  have HO0 := Lib.hid (new_ints w nl)
  go_enter Try.func42, Try.ntmps42
  go_wp2
  go_loopg [14] nl (fun j iv wx => ∃ (q : Nat) (O : List Int), q ≤ nl ∧ j = nl - q ∧ iv = .int .i64 q ∧ Below w.heap.size w wx ∧ Nums wx w.heap.size O ∧ O.length = nl ∧ (∀ (i : Nat) (k : Int), i < q → M[i]? = some k → ¬ lemBad F k ∧ O[i]? = some (lemV F k)))
  case atStart => exact ⟨0, _, Nat.zero_le _, rfl, rfl, HB0.out, HO0.out, List.length_replicate, fun i k h => absurd h (Nat.not_lt_zero _)⟩
  case round =>
    obtain ⟨q, O, hq, hgk, rfl, hbl, ho, hol, hall⟩ := hrel
    subst hgk
    have HBL := Lib.hid hbl
    have HO := Lib.hid ho
    have HOL := Lib.hid hol
    have HALL := Lib.hid hall
    clear hbl ho hol hall HB0 HO0
    by_cases hlt : q < nl
    · obtain ⟨x, hx⟩ : ∃ x, M[q]? = some x := ⟨_, List.getElem?_eq_getElem (by rw [HL.out]; exact hlt)⟩
      obtain ⟨b, off, rfl, hb, hcell⟩ := HA.out q x hx
      have h0 := (HBL.out.cell (p := ⟨b, off + (q * 1 + 0), none⟩) hb).trans (hcell 0 _ rfl)
      simp only [Nat.add_zero, Nat.mul_one] at h0
      have HX := Lib.hid hx
      have hk0 : (0 : Int) ≤ (q : Int) := by omega
      have hk1 : (q : Int) < (nl : Int) := by omega
      clear hcell hx
      by_cases c1 : x < 0
      · have HE : Hid (lemF F M = none) := Lib.hid (lemF_bad (List.mem_of_getElem? HX.out) (Or.inl c1))
        go_wp2
        go_ret2
        exact ⟨HBL.out, _, _, rfl, by rw [HE.out]; exact ⟨rfl, rfl⟩⟩
      · have hx0 : 0 ≤ x := by omega
        have hqt := tdiv_nn (b := 2) hx0
        have hq9 : IntKind.i64.wrap (x / 2) = x / 2 := by
          have hi := HMW.out x (List.mem_of_getElem? HX.out)
          unfold I64 at hi
          rw [IntKind.wrap_i64]
          omega
        have hq0 : 0 ≤ x / 2 := by omega
        by_cases c2 : 16385 ≤ x / 2
        · have HE : Hid (lemF F M = none) := Lib.hid (lemF_bad (List.mem_of_getElem? HX.out) (Or.inr (Or.inl c2)))
          go_wp2
          go_ret2
          exact ⟨HBL.out, _, _, rfl, by rw [HE.out]; exact ⟨rfl, rfl⟩⟩
        · have hq1 : x / 2 < 16385 := by omega
          have hrm : x.tmod 2 = x % 2 := Int.tmod_eq_emod_of_nonneg hx0
          have hrw : IntKind.i64.wrap (x % 2) = x % 2 := i64_small (by omega) (by omega)
          obtain ⟨y, hy⟩ : ∃ y, F[(x / 2).toNat]? = some y := ⟨_, List.getElem?_eq_getElem (by rw [HFL.out]; omega)⟩
          have hyd : F.getD (x / 2).toNat 0 = y := by rw [List.getD_eq_getElem?_getD, hy]; rfl
          obtain ⟨hy0, hy1⟩ := HFB.out y (List.mem_of_getElem? hy)
          have hcy := (HBL.out.cell (p := ⟨g, (x / 2).toNat, none⟩) HGW.out).trans (HF.out.cell hy)
          by_cases c3 : y = -1
          · have HE : Hid (lemF F M = none) := Lib.hid (lemF_bad (List.mem_of_getElem? HX.out) (Or.inr (Or.inr (by rw [hyd]; exact c3))))
            subst c3
            clear hy hyd
            go_wp2
            go_ret2
            exact ⟨HBL.out, _, _, rfl, by rw [HE.out]; exact ⟨rfl, rfl⟩⟩
          · have hb6 : (y == (-1 : Int)) = false := by simpa using c3
            have hw2 : IntKind.i64.wrap (2 * y) = 2 * y := i64_small (by omega) (by omega)
            have hw3 : IntKind.i64.wrap (2 * y + x % 2) = 2 * y + x % 2 := i64_small (by omega) (by omega)
            have HV : Hid (lemV F x = 2 * y + x % 2) := Lib.hid (by unfold lemV; rw [hyd])
            have HNB : Hid (¬ lemBad F x) := Lib.hid (by unfold lemBad; rw [hyd]; omega)
            have hfa := Blk.frozen HO.out q
            have hla := Blk.lt HO.out
            have HBN := Lib.hid (HBL.out.setCell (Nat.le_refl _) (p := ⟨w.heap.size, q, none⟩) (.int .i64 (2 * y + x % 2)))
            have HNN := Lib.hid (HO.out.set_ q (2 * y + x % 2))
            have HLN : Hid ((O.set q (2 * y + x % 2)).length = nl) := Lib.hid (by rw [List.length_set]; exact HOL.out)
            have HAN : Hid (∀ (i : Nat) (k : Int), i < q + 1 → M[i]? = some k → ¬ lemBad F k ∧ (O.set q (2 * y + x % 2))[i]? = some (lemV F k)) := Lib.hid (fun i k hi hk => by
              rw [List.getElem?_set]
              by_cases e : q = i
              · subst e
                rw [HX.out] at hk
                obtain rfl := Option.some.inj hk
                rw [if_pos rfl, if_pos (by rw [HOL.out]; exact hlt), HV.out]
                exact ⟨HNB.out, rfl⟩
              · rw [if_neg e]
                exact HALL.out i k (by omega) hk)
            obtain ⟨z, hz⟩ : ∃ z, O[q]? = some z := ⟨_, List.getElem?_eq_getElem (by rw [HOL.out]; exact hlt)⟩
            have hcz := HO.out.cell hz
            clear hy hyd hz
            go_wp2
            go_roundg (nl - (q + 1))
            case measure => omega
            case rel => exact ⟨q + 1, _, by omega, rfl, by go_num, HBN.out, HNN.out, HLN.out, HAN.out⟩
    · have hqe : nl = q := by omega
      subst hqe
      have HE : Hid (lemF F M = some O) := Lib.hid (by
        have hk : ∀ (i : Nat) (k : Int), M[i]? = some k → ¬ lemBad F k ∧ O[i]? = some (lemV F k) := fun i k hk => HALL.out i k (by rw [← HL.out]; exact (List.getElem?_eq_some_iff.1 hk).1) hk
        rw [lemF_ok (fun k hm => by obtain ⟨i, hi⟩ := List.mem_iff_getElem?.1 hm; exact (hk i k hi).1), map_of_at (O := O) (by rw [HOL.out, HL.out]) (fun i k h => (hk i k h).2)])
      go_wp2
      go_ret2
      exact ⟨HBL.out, _, _, rfl, by rw [HE.out]; exact ⟨w.heap.size, by rw [HOL.out]; rfl, Nat.le_refl _, HO.out, rfl⟩⟩
end Go.Proofs.Ytagffmalmkcboaa

namespace Go.Proofs.Ytagffmalmkcboaa
open Go.RowKit Go.Maps

def lemT (o : Option (List Int)) : Int × List Int := match o with
  | none => (5, [])
  | some O => (0, O)
def lemE (C : Circ) (L M : List Int) : Int × List Int :=
  if (checkR C).2 ≠ 0 then ((checkR C).2, []) else
  match orgF C.max.toNat L with
  | none => (4, [])
  | some F => if 16384 < M.length then (2, []) else lemT (lemF F M)
theorem lemE_no {C : Circ} {L M : List Int} (h : (checkR C).2 ≠ 0) : lemE C L M = ((checkR C).2, []) := if_pos h
theorem lemE_org {C : Circ} {L M : List Int} (h : (checkR C).2 = 0) (ho : orgF C.max.toNat L = none) : lemE C L M = (4, []) := by
  unfold lemE
  rw [if_neg (fun e => e h), ho]
theorem lemE_long {C : Circ} {L M F : List Int} (h : (checkR C).2 = 0) (ho : orgF C.max.toNat L = some F) (hl : 16384 < M.length) : lemE C L M = (2, []) := by
  unfold lemE
  rw [if_neg (fun e => e h), ho]
  exact if_pos hl
theorem lemE_lem {C : Circ} {L M F : List Int} (h : (checkR C).2 = 0) (ho : orgF C.max.toNat L = some F) (hl : ¬ 16384 < M.length) : lemE C L M = lemT (lemF F M) := by
  unfold lemE
  rw [if_neg (fun e => e h), ho]
  exact if_neg hl
theorem lem_own {w' : World} {B : Nat} {o : Option (List Int)} {r b : Value} (h : Lem w' B o r b) (hl : ∀ O, o = some O → O.length ≤ 16384) :
    ∃ A n c, r = .slice A n c ∧ b = .int .i64 (lemT o).1 ∧ w'.ownsRow B 3 1 r (lemT o).2.length ((lemT o).2.map (Value.int .i64)) := by
  rcases o with _ | O
  · obtain ⟨rfl, rfl⟩ := h
    exact ⟨_, _, _, rfl, rfl, World.ownsRow_nil _ _ _ _⟩
  · obtain ⟨g, rfl, hg, hn, rfl⟩ := h
    have h16 := hl O rfl
    refine ⟨_, _, _, rfl, rfl, by simp, .inr ⟨g, O.length, _, rfl, hg, hn, Nat.le_refl _, by unfold maxLen; omega, by simp, ?_⟩⟩
    simp [lemT, List.take_of_length_le]
theorem lemF_len {F M O : List Int} (h : lemF F M = some O) : O.length = M.length := by
  unfold lemF at h
  by_cases e : ∃ k ∈ M, lemBad F k
  · rw [if_pos e] at h
    cases h
  · rw [if_neg e] at h
    obtain rfl := Option.some.inj h
    rw [List.length_map]

set_option maxHeartbeats 8000000 in
set_option maxRecDepth 100000 in
theorem coneLemma_any (w : World) (V : CV) (C : Circ) (X : CV) (mx : Int) (lv iv tv u : Value) (L M : List Int) (h : C.In w V) (ok : C.Ok) (hl : RowE 1 encI w lv L) (hu : RowE 1 encI w u M) (hMw : ∀ z ∈ M, I64 z) :
    Calls Try.prog 19 #[V.val C.max, .agg (cutCells X mx lv iv tv), u] w fun e w' => Below w.heap.size w w' ∧ ∃ A n c, e = .returned (.tuple #[.slice A n c, .int .i64 (lemE C L M).1]) ∧ w'.ownsRow w.heap.size 3 1 (.slice A n c) (lemE C L M).2.length ((lemE C L M).2.map (Value.int .i64)) := by
  obtain ⟨W1, hW1⟩ : ∃ W1, (w.alloc (.cells (V.cells C.max) 29)).alloc (.cells (cutCells X mx lv iv tv) 34) = W1 := ⟨_, rfl⟩
  have HW1 := Lib.hid hW1
  have hb0 : Below w.heap.size w W1 := by rw [← hW1]; exact ((Below.refl _ _).alloc (Nat.le_refl _) _).alloc (by simp) _
  have hbx0 : Blk W1 w.heap.size 29 (V.cells C.max) := by rw [← hW1]; exact (Blk.new w _ _).alloc _
  have hbx1 : Blk W1 (w.heap.size + 1) 34 (cutCells X mx lv iv tv) := by
    rw [← hW1]
    have := Blk.new (w.alloc (.cells (V.cells C.max) 29)) 34 (cutCells X mx lv iv tv)
    rwa [show (w.alloc (.cells (V.cells C.max) 29)).heap.size = w.heap.size + 1 by simp] at this
  have HALL : Hid (∀ wz, Below W1.heap.size W1 wz → Blk wz w.heap.size 29 (V.cells C.max) ∧ wz.cell? ⟨w.heap.size, 0, none⟩ = some (.int .i64 C.max) ∧ wz.cell? ⟨w.heap.size + 1, 11, none⟩ = some lv ∧ C.In wz V ∧ RowE 1 encI wz lv L ∧ RowE 1 encI wz u M ∧ Below w.heap.size w wz) := Lib.hid (fun wz hb => by
    have h2 := bt hb0 (Nat.le_refl _) hb
    exact ⟨hbx0.below hb hbx0.lt, (hbx0.below hb hbx0.lt).cell 0, (hbx1.below hb hbx1.lt).cell 11, h.below h2, hl.below h2, hu.below h2, h2⟩)
  have HCK := Lib.hid (fun (wx : World) (hx : C.In wx V) => Check_any wx V C hx ok)
  obtain ⟨lA, ln, lc, hle⟩ : ∃ A n c, lv = .slice A n c := by obtain ⟨A, c, e, _⟩ := hl; exact ⟨A, _, c, e⟩
  subst hle
  obtain ⟨uA, uc, hue⟩ : ∃ A c, u = .slice A M.length c := by obtain ⟨A, c, e, _⟩ := hu; exact ⟨A, c, e⟩
  subst hue
  clear h ok hl hu hb0 hbx0 hbx1 hW1
  have HMW := Lib.hid hMw
  clear hMw
  by_cases h0 : (checkR C).2 = 0
  · have hr := right_of h0
    have hm0 := hr.m0
    have hm1 := hr.m1
    have H0 := Lib.hid h0
    obtain ⟨m, hmm⟩ : ∃ m : Nat, C.max = (m : Int) := ⟨C.max.toNat, by omega⟩
    have HMT : Hid (C.max.toNat = m) := Lib.hid (by rw [hmm]; rfl)
    have HOR := Lib.hid (fun (wx : World) (hx : RowE 1 encI wx (.slice lA ln lc) L) => originsOf_any wx _ L m (by omega) hx)
    rw [h0] at HCK
    rw [hmm] at HCK HALL HW1 ⊢
    generalize (checkR C).1 = ck at *
    have hm16 : m ≤ 16384 := by omega
    clear hr hmm h0 hm0 hm1
    go_enter Try.func19, Try.ntmps19
    go_upto_region 1 with (fail)
    rw [HW1.out]
    have HC1 := Lib.hid (HALL.out W1 (Below.refl _ _))
    go_upto_region 4 with (first
      | (refine wpList_load_row rfl 29 (.tmp 3) rfl w.heap.size rfl 29 (V.cells m) (0, 0) _ HC1.out.1 Try.underlying29 rfl (by kernel_rfl) ?_)
      | (go_at_call 36; refine (HCK.out W1 HC1.out.2.2.2.1).mono ?_; rintro e w2 ⟨rfl, hb2⟩; have HB2 := Lib.hid hb2; have HC2 := Lib.hid (HALL.out w2 hb2); clear hb2))
    have k0 := HC2.out.2.1
    have k1 := HC2.out.2.2.1
    go_upto_region 5 with (go_at_call 41; refine (HOR.out w2 HC2.out.2.2.2.2.1).mono ?_; rintro e w3 ⟨hb3, r, b, rfl, ho⟩; have HB3 := Lib.hid (bt HB2.out (Nat.le_refl _) hb3); have HC3 := Lib.hid (HALL.out w3 HB3.out); have HS3 := Lib.hid hb3.size; have HO := Lib.hid ho; clear hb3 ho)
    obtain ⟨o, hof⟩ : ∃ o, orgF m L = o := ⟨_, rfl⟩
    have ho := HO.out
    rw [hof] at ho
    clear HO k0 k1
    rcases o with _ | F
    · obtain ⟨rfl, rfl⟩ := ho
      have HE : Hid (lemE C L M = (4, [])) := Lib.hid (lemE_org H0.out (by rw [HMT.out]; exact hof))
      clear hof
      go_wp2
      go_ret2
      exact ⟨HC3.out.2.2.2.2.2.2, _, _, _, by rw [HE.out]; rfl, by rw [HE.out]; exact World.ownsRow_nil _ _ _ _⟩
    · obtain ⟨g, rfl, hg, hn, hFl, rfl⟩ := ho
      have hFb := orgF_bd hof hm16
      have HOF : Hid (orgF C.max.toNat L = some F) := Lib.hid (by rw [HMT.out]; exact hof)
      have HN := Lib.hid hn
      have HFL := Lib.hid hFl
      have HFB := Lib.hid hFb
      clear hof hn hFl hFb
      by_cases hlong : 16384 < M.length
      · have HE : Hid (lemE C L M = (2, [])) := Lib.hid (lemE_long H0.out HOF.out hlong)
        have hli : (16384 : Int) < (M.length : Int) := by omega
        go_wp2
        go_ret2
        exact ⟨HC3.out.2.2.2.2.2.2, _, _, _, by rw [HE.out]; rfl, by rw [HE.out]; exact World.ownsRow_nil _ _ _ _⟩
      · have HE := Lib.hid (lemE_lem H0.out HOF.out hlong)
        have hli : ¬ (16384 : Int) < (M.length : Int) := by omega
        have HLT := Lib.hid (fun (wz : World) (r b : Value) (h : Lem wz w3.heap.size (lemF F M) r b) => lem_own h (fun O ho => by rw [lemF_len ho]; omega))
        have HLE := Lib.hid (lemmaOf_any w3 g F (.slice uA M.length uc) M HN.out HFL.out HFB.out HC3.out.2.2.2.2.2.1 (by omega) HMW.out)
        generalize lemT (lemF F M) = p at *
        go_wp2_with (go_at_call 42; refine HLE.out.mono ?_; rintro e w4 ⟨hb4, r, b, rfl, hlm⟩; obtain ⟨rA, rn, rc, rfl, rfl, hown⟩ := HLT.out _ _ _ hlm; have HB4 := Lib.hid (bt HB3.out (Nat.le_refl _) hb4); have HOW := Lib.hid (own_base hown HC3.out.2.2.2.2.2.2.size); clear hb4 hlm hown)
        go_ret2
        exact ⟨(HALL.out w4 HB4.out).2.2.2.2.2.2, _, _, _, by rw [HE.out]; rfl, by rw [HE.out]; exact HOW.out⟩
  · have HE : Hid (lemE C L M = ((checkR C).2, [])) := Lib.hid (lemE_no h0)
    generalize (checkR C).1 = ck at *
    generalize (checkR C).2 = e0 at *
    have hq : (e0 != 0) = true := by simpa using h0
    clear h0
    go_enter Try.func19, Try.ntmps19
    go_upto_region 1 with (fail)
    rw [HW1.out]
    have HC1 := Lib.hid (HALL.out W1 (Below.refl _ _))
    go_wp2_with (first
      | (refine wpList_load_row rfl 29 (.tmp 3) rfl w.heap.size rfl 29 (V.cells C.max) (0, 0) _ HC1.out.1 Try.underlying29 rfl (by kernel_rfl) ?_)
      | (go_at_call 36; refine (HCK.out W1 HC1.out.2.2.2.1).mono ?_; rintro e w2 ⟨rfl, hb2⟩; have HC2 := Lib.hid (HALL.out w2 hb2); clear hb2))
    go_ret2
    exact ⟨HC2.out.2.2.2.2.2.2, _, _, _, by rw [HE.out]; rfl, by rw [HE.out]; exact World.ownsRow_nil _ _ _ _⟩
end Go.Proofs.Ytagffmalmkcboaa

namespace Go.Proofs.Ytagffmalmkcboaa
open Go.RowKit Go.Maps

theorem i64_small' {x : Int} (h0 : -1000000 ≤ x) (h1 : x ≤ 1000000) : IntKind.i64.wrap x = x := by rw [IntKind.wrap_i64]; omega
theorem getD_add1 {F : List Int} {k : Nat} (hk : k < F.length) : (F.map (· + 1))[k]? = some (F.getD k 0 + 1) := by
  rw [List.getElem?_map, List.getD_eq_getElem?_getD, List.getElem?_eq_getElem hk]
  rfl
set_option maxHeartbeats 8000000 in
set_option maxRecDepth 100000 in
theorem rLemma_any (w : World) (V : CV) (C : Circ) (X : CV) (mx : Int) (lv iv tv u : Value) (L M : List Int) (h : C.In w V) (ok : C.Ok) (htn : ∀ s ∈ C.comments, s.size ≤ maxLen) (hl : RowE 1 encI w lv L) (hu : RowE 1 encI w u M) (hMw : ∀ z ∈ M, I64 z) (hLw : ∀ z ∈ L, I64 z) :
    Calls Try.prog 20 #[V.val C.max, .agg (cutCells X mx lv iv tv), u] w fun e w' => Below w.heap.size w w' ∧ ∃ A n c, e = .returned (.tuple #[.slice A n c, .int .i64 (lemE C L M).1]) ∧ w'.ownsRow w.heap.size 3 1 (.slice A n c) (lemE C L M).2.length ((lemE C L M).2.map (Value.int .i64)) := by
  obtain ⟨W1, hW1⟩ : ∃ W1, (w.alloc (.cells (V.cells C.max) 29)).alloc (.cells (cutCells X mx lv iv tv) 34) = W1 := ⟨_, rfl⟩
  have hb1 : Below w.heap.size w W1 := by rw [← hW1]; exact ((Below.refl _ _).alloc (Nat.le_refl _) _).alloc (by simp) _
  have HALL : Hid (∀ wz, Below W1.heap.size W1 wz → wz.heap[w.heap.size]? = some (.cells (V.cells C.max) 29 (0, 0)) ∧ wz.cell? ⟨w.heap.size, 0, none⟩ = some (.int .i64 C.max) ∧ wz.cell? ⟨w.heap.size + 1, 11, none⟩ = some lv ∧ Below w.heap.size w wz) := Lib.hid (fun wz hb => by
    have h1 : Blk W1 w.heap.size 29 (V.cells C.max) := by rw [← hW1]; exact (Blk.new w _ _).alloc _
    have h2 : Blk W1 (w.heap.size + 1) 34 (cutCells X mx lv iv tv) := by
      rw [← hW1]
      have := Blk.new (w.alloc (.cells (V.cells C.max) 29)) 34 (cutCells X mx lv iv tv)
      simpa using this
    exact ⟨h1.below hb h1.lt, (h1.below hb h1.lt).cell 0, (h2.below hb h2.lt).cell 11, hb1.trans (hb.mono hb1.size)⟩)
  have hck := rCheck_any W1 V C (h.below hb1) ok htn
  obtain ⟨AL, cL, eL, hlL, hmL, hrL⟩ := hl
  obtain ⟨AM, cM, eM, hlM, hmM, hrM⟩ := hu
  subst eL eM
  have HRL := Lib.hid hrL
  have HRM := Lib.hid hrM
  have HMW := Lib.hid hMw
  have HLW := Lib.hid hLw
  have HW1 := Lib.hid hW1
  have HS1 : Hid (W1.heap.size = w.heap.size + 1 + 1) := Lib.hid (by rw [← hW1]; simp)
  obtain ⟨ca, cr, hr⟩ : ∃ a r, checkR C = (a, r) := ⟨_, _, rfl⟩
  rw [hr] at hck
  have HCK := Lib.hid hck
  obtain ⟨nL, hnL⟩ : ∃ n, L.length = n := ⟨_, rfl⟩
  obtain ⟨nM, hnM⟩ : ∃ n, M.length = n := ⟨_, rfl⟩
  have hnL9 : nL ≤ 9223372036854775807 := by rw [← hnL]; simp only [maxLen] at hmL; omega
  have hnM9 : nM ≤ 9223372036854775807 := by rw [← hnM]; simp only [maxLen] at hmM; omega
  have HLN := Lib.hid (And.intro hnL hnM)
  rw [hnL, hnM]
  rw [hnL] at HW1 HALL
  have HC1 := Lib.hid (HALL.out W1 (Below.refl _ _))
  by_cases hz : (checkR C).2 = 0
  · have hrt := right_of hz
    obtain ⟨m, hmm⟩ : ∃ m : Nat, C.max = (m : Int) := ⟨C.max.toNat, by have := hrt.m0; omega⟩
    have hm16 : m ≤ 16384 := by have := hrt.m1; omega
    have hz0 : cr = 0 := by rw [hr] at hz; exact hz
    subst hz0
    have HZ := Lib.hid hz
    have HMM := Lib.hid hmm
    have HTN : Hid (C.max.toNat = m) := Lib.hid (by omega)
    rw [hmm] at HALL HW1 HC1 HCK ⊢
    clear h ok htn hck hr hz hrt hmm hrL hrM hMw hLw hnL hnM hlL hlM hmL hmM hb1 hW1
    have hwm : IntKind.i64.wrap ((m : Int) + 1) = (m : Int) + 1 := i64_small (by omega) (by omega)
    go_enter Try.func20, Try.ntmps20
    go_upto_region 1 with (fail)
    rw [HW1.out]
    go_upto_region 4 with (first
      | (refine wpList_load_row rfl 29 (.tmp 3) rfl w.heap.size rfl 29 (V.cells (m : Int)) (0, 0) _ HC1.out.1 Try.underlying29 rfl (by kernel_rfl) ?_)
      | (go_at_call 29; refine HCK.out.mono ?_; rintro e w2 ⟨rfl, hb2⟩; have HB2 := Lib.hid hb2; clear hb2))
    have HC2 := Lib.hid (HALL.out w2 HB2.out)
    obtain ⟨_, c0, c11, _⟩ := HC2.out
    by_cases hne : nL = m + 1
    · subst hne
      have hmk := make_ints 16385 (by omega)
      push_cast at hmk
      have hcc : ((m + 1 : Nat) : Int) = (m : Int) + 1 := by omega
      have HNU : Hid (Nums (w2.alloc (.cells (madeCells #[Value.int .i64 0] 16385) 3)) w2.heap.size ((List.replicate 16385 (-1 : Int)).map (· + 1))) := Lib.hid (by
        rw [List.map_replicate]
        exact new_ints w2 16385)
      obtain ⟨F0, hF0⟩ : ∃ F : List Int, List.replicate 16385 (-1 : Int) = F := ⟨_, rfl⟩
      have HF0 : Hid (F0.length = 16385 ∧ (∀ y ∈ F0, -1 ≤ y ∧ y ≤ 16384) ∧ F0.getD 0 0 = -1 ∧ orgF m L = orgS F0 0 L) := Lib.hid (by
        refine ⟨by rw [← hF0]; simp, fun y hy => ?_, ?_, by unfold orgF; rw [if_pos HLN.out.1, hF0]⟩
        · rw [← hF0] at hy
          have := List.eq_of_mem_replicate hy
          omega
        · rw [← hF0]
          rw [List.getD_eq_getElem?_getD, List.getElem?_replicate]
          rfl)
      rw [hF0] at HNU
      clear hF0
      obtain ⟨W3, hW3⟩ : ∃ W3, w2.alloc (.cells (madeCells #[Value.int .i64 0] 16385) 3) = W3 := ⟨_, rfl⟩
      have HB3 : Hid (Below w2.heap.size w2 W3) := Lib.hid (by rw [← hW3]; exact (Below.refl _ _).alloc (Nat.le_refl _) _)
      rw [hW3] at HNU
      have HW3 := Lib.hid hW3
      clear hW3
      obtain ⟨g, hg⟩ : ∃ g, w2.heap.size = g := ⟨_, rfl⟩
      rw [hg] at HNU
      have HG := Lib.hid hg
      clear hg
      have HGL : Hid (w.heap.size + 1 < g) := Lib.hid (by have h1 := HB2.out.size; have h2 := HS1.out; have h3 := HG.out; omega)
      go_upto_region 7 with (fail)
      rw [HW3.out, HG.out]
      go_wp2
      clear c0 c11
      go_loopg [11] (m + 1) (fun j iv wx => ∃ (q : Nat) (F : List Int), q ≤ m + 1 ∧ j = m + 1 - q ∧ iv = .int .i64 q ∧ Below g w2 wx ∧ Nums wx g (F.map (· + 1)) ∧ F.length = 16385 ∧ (∀ y ∈ F, -1 ≤ y ∧ y ≤ 16384) ∧ F.getD 0 0 = -1 ∧ orgF m L = orgS F q (L.drop q))
      case atStart => exact ⟨0, F0, Nat.zero_le _, rfl, rfl, by have := HB3.out; rwa [HG.out] at this, HNU.out, HF0.out.1, HF0.out.2.1, HF0.out.2.2.1, HF0.out.2.2.2⟩
      case round =>
        obtain ⟨q, F, hq, hgq, rfl, hbw, hnum, hFl, hFb, hF1, horg⟩ := hrel
        subst hgq
        have HBW := Lib.hid hbw
        have HNM := Lib.hid hnum
        have HFF := Lib.hid (And.intro hFl (And.intro hFb (And.intro hF1 horg)))
        have HBB : Hid (Below W1.heap.size W1 wr) := Lib.hid (bt HB2.out (Nat.le_refl _) (by rw [HG.out]; exact hbw))
        clear hbw hnum hFl hFb hF1 horg HNU
        obtain ⟨_, c0, c11, _⟩ := HALL.out wr HBB.out
        by_cases hlt : q < m + 1
        · obtain ⟨x, hx⟩ : ∃ x, L[q]? = some x := ⟨_, List.getElem?_eq_getElem (by rw [HLN.out.1]; exact hlt)⟩
          obtain ⟨lb, off, e, hlb, hcell⟩ := HRL.out q x hx
          subst e
          have i0 := ((HALL.out wr HBB.out).2.2.2.cell (p := ⟨lb, off + (q * 1 + 0), none⟩) hlb).trans (hcell 0 _ rfl)
          simp only [Nat.mul_one, Nat.add_zero] at i0
          have hx64 := HLW.out x (List.mem_of_getElem? hx)
          unfold I64 at hx64
          have HOS := Lib.hid (orgS_at (F := F) (v := q) hx)
          have hq0 : (0 : Int) ≤ (q : Int) := by omega
          have hq1 : (q : Int) ≤ (m : Int) := by omega
          have hq2 : (q : Int) < (m : Int) + 1 := by omega
          have hq3 : (q : Int) < ((m + 1 : Nat) : Int) := by omega
          clear hx hcell hlb
          -- what is wrong with it
          by_cases hb1 : x < -1
          · have HOE : Hid (orgF m L = none) := Lib.hid (by
              rw [HFF.out.2.2.2, HOS.out, if_neg (by omega), if_pos (by unfold orgBad; omega)])
            go_wp2
            go_ret2
            rw [lemE_org HZ.out (by rw [HTN.out]; exact HOE.out)]
            exact ⟨(HALL.out wr HBB.out).2.2.2, none, 0, 0, rfl, World.ownsRow_nil _ _ _ _⟩
          · by_cases hs : x = -1 ∨ x = 0
            · have HOE : Hid (orgF m L = orgS F (q + 1) (L.drop (q + 1))) := Lib.hid (by rw [HFF.out.2.2.2, HOS.out, if_pos hs])
              have hx1 : ¬ 2 ≤ x := by omega
              rcases hs with rfl | rfl
              · go_wp2
                go_roundg (m + 1 - (q + 1))
                case measure => omega
                case rel => first
                  | exact ⟨q + 1, F, by omega, rfl, by go_num, HBW.out, HNM.out, HFF.out.1, HFF.out.2.1, HFF.out.2.2.1, HOE.out⟩
                  | ((repeat apply Exists.intro); exact ⟨⟨q + 1, F, by omega, rfl, by go_num, HBW.out, HNM.out, HFF.out.1, HFF.out.2.1, HFF.out.2.2.1, HOE.out⟩, rfl⟩)
              · have hr0 : (0 : Int).tmod 2 = 0 := rfl
                go_wp2
                go_roundg (m + 1 - (q + 1))
                case measure => omega
                case rel => first
                  | exact ⟨q + 1, F, by omega, rfl, by go_num, HBW.out, HNM.out, HFF.out.1, HFF.out.2.1, HFF.out.2.2.1, HOE.out⟩
                  | ((repeat apply Exists.intro); exact ⟨⟨q + 1, F, by omega, rfl, by go_num, HBW.out, HNM.out, HFF.out.1, HFF.out.2.1, HFF.out.2.2.1, HOE.out⟩, rfl⟩)
            · have hx0 : 0 ≤ x := by omega
              have hr2 : x.tmod 2 = x % 2 := Int.tmod_eq_emod_of_nonneg hx0
              by_cases ho : x % 2 = 1
              · have HOE : Hid (orgF m L = none) := Lib.hid (by
                  rw [HFF.out.2.2.2, HOS.out, if_neg hs, if_pos (by unfold orgBad; omega)])
                rw [ho] at hr2
                go_wp2
                go_ret2
                rw [lemE_org HZ.out (by rw [HTN.out]; exact HOE.out)]
                exact ⟨(HALL.out wr HBB.out).2.2.2, none, 0, 0, rfl, World.ownsRow_nil _ _ _ _⟩
              · have ho2 : x % 2 = 0 := by omega
                rw [ho2] at hr2
                by_cases hbig : 32768 < x
                · have HOE : Hid (orgF m L = none) := Lib.hid (by
                    rw [HFF.out.2.2.2, HOS.out, if_neg hs, if_pos (by unfold orgBad; omega)])
                  go_wp2
                  go_ret2
                  rw [lemE_org HZ.out (by rw [HTN.out]; exact HOE.out)]
                  exact ⟨(HALL.out wr HBB.out).2.2.2, none, 0, 0, rfl, World.ownsRow_nil _ _ _ _⟩
                · have hx2 : 2 ≤ x := by omega
                  have hxq := tdiv_nn (a := x) (b := 2) hx0
                  have hxw : IntKind.i64.wrap (x / 2) = x / 2 := i64_small (by omega) (by omega)
                  have hx3 : (0 : Int) ≤ x / 2 := by omega
                  have hx4 : x / 2 < 16385 := by omega
                  obtain ⟨y, hy⟩ : ∃ y, F.getD (x / 2).toNat 0 = y := ⟨_, rfl⟩
                  have hyb : -1 ≤ y ∧ y ≤ 16384 := by
                    rw [← hy, List.getD_eq_getElem?_getD, List.getElem?_eq_getElem (by rw [HFF.out.1]; omega)]
                    exact HFF.out.2.1 _ (List.getElem_mem _)
                  have hcy := HNM.out.cell (getD_add1 (F := F) (k := (x / 2).toNat) (by rw [HFF.out.1]; omega))
                  rw [hy] at hcy
                  by_cases hy1 : y = -1
                  · have HOE : Hid (orgF m L = orgS (F.set (x / 2).toNat (q : Int)) (q + 1) (L.drop (q + 1))) := Lib.hid (by
                      rw [HFF.out.2.2.2, HOS.out, if_neg hs, if_neg (by unfold orgBad; rw [hy]; omega)])
                    have hy0 : ¬ 0 < y + 1 := by omega
                    have hqw : IntKind.i64.wrap ((q : Int) + 1) = (q : Int) + 1 := i64_small (by omega) (by omega)
                    have HN2 : Hid (Below g w2 (wr.setCell ⟨g, (x / 2).toNat, none⟩ (.int .i64 ((q : Int) + 1))) ∧ Nums (wr.setCell ⟨g, (x / 2).toNat, none⟩ (.int .i64 ((q : Int) + 1))) g ((F.set (x / 2).toNat (q : Int)).map (· + 1)) ∧ (F.set (x / 2).toNat (q : Int)).length = 16385 ∧ (∀ y ∈ F.set (x / 2).toNat (q : Int), -1 ≤ y ∧ y ≤ 16384) ∧ (F.set (x / 2).toNat (q : Int)).getD 0 0 = -1) := Lib.hid (by
                      refine ⟨HBW.out.setCell (Nat.le_refl _) _, ?_, by rw [List.length_set]; exact HFF.out.1, fun z hz => ?_, ?_⟩
                      · have := Nums.set_ HNM.out (x / 2).toNat ((q : Int) + 1)
                        rwa [← List.map_set] at this
                      · rcases List.mem_or_eq_of_mem_set hz with h1 | h1
                        · exact HFF.out.2.1 z h1
                        · omega
                      · rw [List.getD_eq_getElem?_getD, List.getElem?_set_ne (by omega), ← List.getD_eq_getElem?_getD]
                        exact HFF.out.2.2.1)
                    have hfz := Blk.frozen HNM.out (x / 2).toNat
                    have hgl := Blk.lt HNM.out
                    clear hy hy1
                    go_wp2
                    go_roundg (m + 1 - (q + 1))
                    case measure => omega
                    case rel => first
                      | exact ⟨q + 1, _, by omega, rfl, by go_num, HN2.out.1, HN2.out.2.1, HN2.out.2.2.1, HN2.out.2.2.2.1, HN2.out.2.2.2.2, HOE.out⟩
                      | ((repeat apply Exists.intro); exact ⟨⟨q + 1, _, by omega, rfl, by go_num, HN2.out.1, HN2.out.2.1, HN2.out.2.2.1, HN2.out.2.2.2.1, HN2.out.2.2.2.2, HOE.out⟩, rfl⟩)
                  · have HOE : Hid (orgF m L = none) := Lib.hid (by
                      rw [HFF.out.2.2.2, HOS.out, if_neg hs, if_pos (by unfold orgBad; rw [hy]; omega)])
                    have hy0 : 0 < y + 1 := by omega
                    clear hy
                    go_wp2
                    go_ret2
                    rw [lemE_org HZ.out (by rw [HTN.out]; exact HOE.out)]
                    exact ⟨(HALL.out wr HBB.out).2.2.2, none, 0, 0, rfl, World.ownsRow_nil _ _ _ _⟩
        · have hqe : q = m + 1 := by omega
          have hq1 : ¬ (q : Int) ≤ (m : Int) := by omega
          have HOE : Hid (orgF C.max.toNat L = some F) := Lib.hid (by
            rw [HTN.out, HFF.out.2.2.2, hqe, ← HLN.out.1]
            exact orgS_end)
          clear hqe
          by_cases hlong : 16384 < nM
          · have HE : Hid (lemE C L M = (2, [])) := Lib.hid (lemE_long HZ.out HOE.out (by rw [HLN.out.2]; exact hlong))
            have hlg : (16384 : Int) < (nM : Int) := by omega
            go_wp2
            go_ret2
            rw [HE.out]
            exact ⟨(HALL.out wr HBB.out).2.2.2, none, 0, 0, rfl, World.ownsRow_nil _ _ _ _⟩
          · have HE : Hid (lemE C L M = lemT (lemF F M)) := Lib.hid (lemE_lem HZ.out HOE.out (by rw [HLN.out.2]; exact hlong))
            have hlg : ¬ (16384 : Int) < (nM : Int) := by omega
            go_wp2
            clear c0 c11 HBW
            generalize wr = wE at *
            have HGE : Hid (g < wE.heap.size ∧ w.heap.size ≤ g) := Lib.hid ⟨Blk.lt HNM.out, by have := HGL.out; omega⟩
            go_loopg [13, 14] nM (fun j ov iv wx => ∃ q : Nat, q ≤ nM ∧ j = nM - q ∧ iv = .int .i64 q ∧ Below wE.heap.size wE wx ∧ wx.ownsRow wE.heap.size 3 1 ov q ((M.take q).map (fun k => Value.int .i64 (lemV F k))) ∧ ∀ k ∈ M.take q, ¬ lemBad F k)
            case atStart => exact ⟨0, Nat.zero_le _, rfl, rfl, Below.refl _ _, ⟨rfl, .inl ⟨rfl, rfl⟩⟩, by simp⟩
            case round =>
              obtain ⟨q, hq, hgq, rfl, hbw, hown, hgood⟩ := hrel
              subst hgq
              have HBW := Lib.hid hbw
              have HOW := Lib.hid hown
              have HGD := Lib.hid hgood
              have HNW : Hid (Nums wr g (F.map (· + 1))) := Lib.hid (Blk.below HNM.out hbw HGE.out.1)
              have HBF : Hid (Below W1.heap.size W1 wr) := Lib.hid (bt HBB.out (Nat.le_refl _) hbw)
              clear hbw hown hgood
              by_cases hlt : q < nM
              · obtain ⟨x, hx⟩ : ∃ x, M[q]? = some x := ⟨_, List.getElem?_eq_getElem (by rw [HLN.out.2]; exact hlt)⟩
                obtain ⟨mb, off, e, hmb, hcell⟩ := HRM.out q x hx
                subst e
                have i0 := ((HALL.out wr HBF.out).2.2.2.cell (p := ⟨mb, off + (q * 1 + 0), none⟩) hmb).trans (hcell 0 _ rfl)
                simp only [Nat.mul_one, Nat.add_zero] at i0
                have hx64 := HMW.out x (List.mem_of_getElem? hx)
                unfold I64 at hx64
                have hq0 : (0 : Int) ≤ (q : Int) := by omega
                have hq1 : (q : Int) < (nM : Int) := by omega
                have HX := Lib.hid hx
                clear hx hcell
                by_cases h2 : x < 2
                · have HB5 : Hid (lemF F M = none) := Lib.hid (lemF_bad (List.mem_of_getElem? HX.out) (by
                    unfold lemBad
                    rcases Int.lt_or_le x 0 with h | h
                    · exact .inl h
                    · have : (x / 2).toNat = 0 := by omega
                      rw [this]
                      exact .inr (.inr HFF.out.2.2.1)))
                  go_wp2
                  go_ret2
                  rw [HE.out, HB5.out]
                  exact ⟨(HALL.out wr HBF.out).2.2.2, none, 0, 0, rfl, World.ownsRow_nil _ _ _ _⟩
                · by_cases h3 : 32769 < x
                  · have HB5 : Hid (lemF F M = none) := Lib.hid (lemF_bad (List.mem_of_getElem? HX.out) (by unfold lemBad; omega))
                    go_wp2
                    go_ret2
                    rw [HE.out, HB5.out]
                    exact ⟨(HALL.out wr HBF.out).2.2.2, none, 0, 0, rfl, World.ownsRow_nil _ _ _ _⟩
                  · have hx0 : 0 ≤ x := by omega
                    have hxq := tdiv_nn (a := x) (b := 2) hx0
                    have hxw : IntKind.i64.wrap (x / 2) = x / 2 := i64_small (by omega) (by omega)
                    have hx3 : (0 : Int) ≤ x / 2 := by omega
                    have hx4 : x / 2 < 16385 := by omega
                    have hr2 : x.tmod 2 = x % 2 := Int.tmod_eq_emod_of_nonneg hx0
                    obtain ⟨y, hy⟩ : ∃ y, F.getD (x / 2).toNat 0 = y := ⟨_, rfl⟩
                    have hyb : -1 ≤ y ∧ y ≤ 16384 := by
                      rw [← hy, List.getD_eq_getElem?_getD, List.getElem?_eq_getElem (by rw [HFF.out.1]; omega)]
                      exact HFF.out.2.1 _ (List.getElem_mem _)
                    have hcy := HNW.out.cell (getD_add1 (F := F) (k := (x / 2).toNat) (by rw [HFF.out.1]; omega))
                    rw [hy] at hcy
                    by_cases hy1 : y = -1
                    · have HB5 : Hid (lemF F M = none) := Lib.hid (lemF_bad (List.mem_of_getElem? HX.out) (by unfold lemBad; rw [hy]; omega))
                      have hy0 : y + 1 = 0 := by omega
                      rw [hy0] at hcy
                      clear hy
                      go_wp2
                      go_ret2
                      rw [HE.out, HB5.out]
                      exact ⟨(HALL.out wr HBF.out).2.2.2, none, 0, 0, rfl, World.ownsRow_nil _ _ _ _⟩
                    · have hy0 : ((y + 1) == (0 : Int)) = false := by simpa using fun e : y + 1 = 0 => hy1 (by omega)
                      have HGOOD : Hid (∀ k ∈ M.take (q + 1), ¬ lemBad F k) := Lib.hid (fun k hk => by
                        rw [List.take_add_one, HX.out] at hk
                        rcases List.mem_append.1 hk with h | h
                        · exact HGD.out k h
                        · have : k = x := by simpa using h
                          rw [this]
                          unfold lemBad
                          rw [hy]
                          omega)
                      have HLV : Hid (lemV F x = 2 * y + x % 2) := Lib.hid (by unfold lemV; rw [hy])
                      have w1 : IntKind.i64.wrap y = y := i64_small' (by omega) (by omega)
                      have w0 : IntKind.i64.wrap (y + 1 - 1) = y := by rw [Int.add_sub_cancel]; exact w1
                      have w2 : IntKind.i64.wrap (2 * y) = 2 * y := i64_small' (by omega) (by omega)
                      have w3 : IntKind.i64.wrap (2 * y + x % 2) = 2 * y + x % 2 := i64_small' (by omega) (by omega)
                      have w4 : IntKind.i64.wrap (x % 2) = x % 2 := i64_small' (by omega) (by omega)
                      obtain ⟨v, hv⟩ : ∃ v, 2 * y + x % 2 = v := ⟨_, rfl⟩
                      replace w3 := w3.trans hv
                      have HV := Lib.hid hv
                      obtain ⟨Ao, co, hov⟩ := own_slice1 HOW.out
                      subst hov
                      obtain ⟨WD, hWD⟩ : ∃ WD, wr.drew = WD := ⟨_, rfl⟩
                      have HWD := Lib.hid hWD
                      have hbd : Below wE.heap.size wE WD := by rw [← hWD]; exact HBW.out.drew
                      have HBD := Lib.hid hbd
                      have HOD : Hid (WD.ownsRow wE.heap.size 3 1 (.slice Ao q co) q ((M.take q).map (fun k => Value.int .i64 (lemV F k)))) := Lib.hid (by rw [← hWD]; exact own_of_block HOW.out fun _ _ => rfl)
                      have HSC : Hid (∀ wz, Below wE.heap.size wE wz → wz.cell? ⟨mb, off + q, none⟩ = some (.int .i64 x) ∧ wz.cell? ⟨g, (x / 2).toNat, none⟩ = some (.int .i64 (y + 1))) := Lib.hid (fun wz hb => by
                        have e1 : wE.cell? ⟨mb, off + q, none⟩ = some (.int .i64 x) := by
                          have h1 := (HALL.out wE HBB.out).2.2.2
                          have h2 := (HALL.out wr HBF.out).2.2.2
                          exact (h1.cell (p := ⟨mb, off + q, none⟩) hmb).trans ((h2.cell (p := ⟨mb, off + q, none⟩) hmb).symm.trans i0)
                        have e2 : wE.cell? ⟨g, (x / 2).toNat, none⟩ = some (.int .i64 (y + 1)) := by
                          have := HNM.out.cell (getD_add1 (F := F) (k := (x / 2).toNat) (by rw [HFF.out.1]; omega))
                          rwa [hy] at this
                        exact ⟨(hb.cell (p := ⟨mb, off + q, none⟩) (World.block_lt_of_cell? _ _ e1)).trans e1, (hb.cell (p := ⟨g, (x / 2).toNat, none⟩) (World.block_lt_of_cell? _ _ e2)).trans e2⟩)
                      obtain ⟨ii, hi0, hz0, hz1, hz2⟩ := info_of2 infoI2
                      have HI0 := Lib.hid (And.intro hi0 (And.intro hz0 (And.intro hz1 hz2)))
                      have HTK : Hid ((M.take (q + 1)).map (fun k => Value.int .i64 (lemV F k)) = (M.take q).map (fun k => Value.int .i64 (lemV F k)) ++ [.int .i64 v]) := Lib.hid (by rw [List.take_add_one, HX.out, ← HV.out, ← HLV.out]; simp)
                      clear hy hWD hbd hi0 hz0 hz1 hz2 hv
                      go_upto_region 23 with (fail)
                      refine wp_region_T (by kernel_rfl) (fun w' => w'.cell? ⟨mb, off + q, none⟩ = some (.int .i64 x) ∧ w'.cell? ⟨g, (x / 2).toNat, none⟩ = some (.int .i64 (y + 1))) 20 ?_
                      rw [HWD.out]
                      have hHeld := HSC.out WD HBD.out
                      clear i0 hcy
                      refine wpAnyT_take (i := 0) (v := ?v0r23q1) rfl (by kernel_rfl) (fun _ _ _ h => h) (by rfl) hHeld ?h0r23q1 ?_
                      case h0r23q1 => (intro w' hSw; (try dsimp only at hSw); go_simp; try with_reducible rfl)
                      (try simp only [Act.put, List.setIfInBounds_toArray])
                      refine wpAnyT_take (i := 1) (v := ?v1r23q1) rfl (by kernel_rfl) (fun _ _ _ h => h) (by rfl) hHeld ?h1r23q1 ?_
                      case h1r23q1 => (intro w' hSw; (try dsimp only at hSw); go_simp; try with_reducible rfl)
                      (try simp only [Act.put])
                      refine wpAnyT_take (i := 2) (v := ?v2r23q1) rfl (by kernel_rfl) (fun _ _ _ h => h) (by rfl) hHeld ?h2r23q1 ?_
                      case h2r23q1 => (intro w' hSw; (try dsimp only at hSw); go_simp; try with_reducible rfl)
                      (try simp only [Act.put])
                      refine wpAnyT_take (i := 3) (v := ?v3r23q1) rfl (by kernel_rfl) (fun _ _ _ h => h) (by rfl) hHeld ?h3r23q1 ?_
                      case h3r23q1 => (intro w' hSw; (try dsimp only at hSw); go_simp; try with_reducible rfl)
                      (try simp only [Act.put])
                      refine wpAnyT_take (i := 4) (v := ?v4r23q1) rfl (by kernel_rfl) (fun _ _ _ h => h) (by rfl) hHeld ?h4r23q1 ?_
                      case h4r23q1 => (intro w' hSw; (try dsimp only at hSw); go_simp; try with_reducible rfl)
                      (try simp only [Act.put])
                      refine wpAnyT_take (i := 5) (v := ?v5r23q1) rfl (by kernel_rfl) (fun _ _ _ h => h) (by rfl) hHeld ?h5r23q1 ?_
                      case h5r23q1 => (intro w' hSw; (try dsimp only at hSw); go_simp; try with_reducible rfl)
                      (try simp only [Act.put])
                      refine wpAnyT_take (i := 6) (v := ?v6r23q1) rfl (by kernel_rfl) (fun _ _ _ h => h) (by rfl) hHeld ?h6r23q1 ?_
                      case h6r23q1 => (intro w' hSw; (try dsimp only at hSw); go_simp; try with_reducible rfl)
                      (try simp only [Act.put])
                      refine wpAnyT_take (i := 7) (v := ?v7r23q1) rfl (by kernel_rfl) (fun _ _ _ h => h) (by rfl) hHeld ?h7r23q1 ?_
                      case h7r23q1 => (intro w' hSw; (try dsimp only at hSw); go_simp; try with_reducible rfl)
                      (try simp only [Act.put])
                      refine wpAnyT_take (i := 8) (v := ?v8r23q1) rfl (by kernel_rfl) (fun _ _ _ h => h) (by rfl) hHeld ?h8r23q1 ?_
                      case h8r23q1 => (intro w' hSw; (try dsimp only at hSw); go_simp; try with_reducible rfl)
                      (try simp only [Act.put])
                      refine wpAnyT_take (i := 9) (v := ?v9r23q1) rfl (by kernel_rfl) (fun _ _ _ h => h) (by rfl) hHeld ?h9r23q1 ?_
                      case h9r23q1 => (intro w' hSw; (try dsimp only at hSw); go_simp; try with_reducible rfl)
                      (try simp only [Act.put])
                      refine wpAnyT_take (i := 10) (v := ?v10r23q1) rfl (by kernel_rfl) (fun _ _ _ h => h) (by rfl) hHeld ?h10r23q1 ?_
                      case h10r23q1 => (intro w' hSw; (try dsimp only at hSw); go_simp; try with_reducible rfl)
                      (try simp only [Act.put])
                      refine wpAnyT_take (i := 11) (v := ?v11r23q1) rfl (by kernel_rfl) (fun _ _ _ h => h) (by rfl) hHeld ?h11r23q1 ?_
                      case h11r23q1 => (intro w' hSw; (try dsimp only at hSw); go_simp; try with_reducible rfl)
                      (try simp only [Act.put])
                      refine wpAnyT_take (i := 12) (v := ?v12r23q1) rfl (by kernel_rfl) (fun _ _ _ h => h) (by rfl) hHeld ?h12r23q1 ?_
                      case h12r23q1 => (intro w' hSw; (try dsimp only at hSw); go_simp; try with_reducible rfl)
                      (try simp only [Act.put])
                      refine wpAnyT_take (i := 13) (v := ?v13r23q1) rfl (by kernel_rfl) (fun _ _ _ h => h) (by rfl) hHeld ?h13r23q1 ?_
                      case h13r23q1 => (intro w' hSw; (try dsimp only at hSw); go_simp; try with_reducible rfl)
                      (try simp only [Act.put])
                      refine wpAnyT_take (i := 14) (v := ?v14r23q1) rfl (by kernel_rfl) (fun _ _ _ h => h) (by rfl) hHeld ?h14r23q1 ?_
                      case h14r23q1 => (intro w' hSw; (try dsimp only at hSw); go_simp; try with_reducible rfl)
                      (try simp only [Act.put])
                      refine wpAnyT_take (i := 15) (v := ?v15r23q1) rfl (by kernel_rfl) (fun _ _ _ h => h) (by rfl) hHeld ?h15r23q1 ?_
                      case h15r23q1 => (intro w' hSw; (try dsimp only at hSw); go_simp; try with_reducible rfl)
                      (try simp only [Act.put])
                      refine wpAnyT_take (i := 16) (v := ?v16r23q1) rfl (by kernel_rfl) (fun _ _ _ h => h) (by rfl) hHeld ?h16r23q1 ?_
                      case h16r23q1 => (intro w' hSw; (try dsimp only at hSw); go_simp; try with_reducible rfl)
                      (try simp only [Act.put])
                      clear hHeld
                      refine wpAnyT_one (i := 17) rfl (by kernel_rfl) (fun K hK => ?_)
                      go_simp
                      refine hK.out _ _ (fun _ => HSC.out _ (HBD.out.alloc HBD.out.size _)) ?_
                      clear hK K
                      (try simp only [Act.put, zA, zB, zC])
                      refine wpAnyT_one (i := 18) rfl (by kernel_rfl) (fun K hK => ?_)
                      refine step_append_any _ rfl (.tmp 109) (.tmp 126) _ rfl wE.heap.size 3 ii _ 1 8 Try.underlying50 HI0.out.1 HI0.out.2.1 HI0.out.2.2.1 HI0.out.2.2.2 rfl (by omega) (.slice Ao q co) q ((M.take q).map (fun k => Value.int .i64 (lemV F k))) (by first | rfl | (simp [Act.eval])) (HOD.out.alloc _) (WD.heap.size + 1) (some ⟨WD.heap.size, 0, none⟩) 1 1 [.int .i64 v] (by first | rfl | (simp [Act.eval])) (reads_one _ _ _) (by simp [Value.oneCell']) (by simp only [maxLen]; omega) (by omega) (by have := HBD.out.size; first | (simp; done) | (simp; omega)) ?_
                      intro v5 w5 hown5 hg5 hat5
                      have HB5 : Hid (Below wE.heap.size wE w5) := Lib.hid ((HBD.out.alloc HBD.out.size _).grown hg5 (by have := HBD.out.size; simp; omega) (fun k hk => (HOD.out.lt k hk).1))
                      have HO5 : Hid (w5.ownsRow wE.heap.size 3 1 v5 (q + 1) ((M.take (q + 1)).map (fun k => Value.int .i64 (lemV F k)))) := Lib.hid (by rw [HTK.out]; exact hown5)
                      clear hown5 hg5 hat5
                      refine hK.out _ _ (fun _ => HSC.out _ HB5.out) ?_
                      clear hK K
                      (try simp only [Act.put, List.setIfInBounds_toArray])
                      refine wpAnyT_one (i := 19) rfl (by kernel_rfl) (fun K hK => ?_)
                      go_simp
                      refine hK.out _ _ (fun _ => HSC.out _ HB5.out) ?_
                      clear hK K
                      (try simp only [Act.put, zA, zB, zC])
                      refine wpAnyT_done (by kernel_rfl) ?_
                      go_wp2
                      go_roundg (nM - (q + 1))
                      case measure => omega
                      case rel => exact ⟨q + 1, by omega, rfl, by go_num, HB5.out, HO5.out, HGOOD.out⟩
              · have hk1 : ¬ (q : Int) < (nM : Int) := by omega
                have hqe : q = nM := by omega
                go_wp2
                go_ret2
                have hall : ∀ k ∈ M, ¬ lemBad F k := fun k hk => HGD.out k (by rw [List.take_of_length_le (by rw [HLN.out.2]; omega)]; exact hk)
                have how := HOW.out
                rw [List.take_of_length_le (by rw [HLN.out.2]; omega)] at how
                rw [HE.out, lemF_ok hall]
                obtain ⟨A, c, e⟩ := own_slice1 how
                rw [e] at how ⊢
                refine ⟨(HALL.out wr HBF.out).2.2.2, A, q, c, rfl, ?_⟩
                show World.ownsRow _ _ _ _ _ (M.map (lemV F)).length ((M.map (lemV F)).map (Value.int .i64))
                rw [List.map_map, List.length_map, HLN.out.2]
                rw [hqe] at how ⊢
                have hb9 := HBB.out.size
                have hs9 := HS1.out
                exact own_le how (by omega)
    · have HOE : Hid (lemE C L M = (4, [])) := Lib.hid (lemE_org HZ.out (by rw [HTN.out]; unfold orgF; rw [if_neg (by rw [HLN.out.1]; exact hne)]))
      have hne2 : ((nL : Int) != (m : Int) + 1) = true := by simp; omega
      go_wp2
      go_ret2
      rw [HOE.out]
      exact ⟨HC2.out.2.2.2, none, 0, 0, rfl, World.ownsRow_nil _ _ _ _⟩
  · have HE : Hid (lemE C L M = (cr, [])) := Lib.hid (by rw [lemE_no hz, hr])
    have hq : (cr != 0) = true := by rw [hr] at hz; simpa using hz
    clear h ok htn hck hr hz hrL hrM hMw hLw hnL hnM hlL hlM hmL hmM hb1 hW1
    go_enter Try.func20, Try.ntmps20
    go_upto_region 1 with (fail)
    rw [HW1.out]
    go_wp2_with (first
      | (refine wpList_load_row rfl 29 (.tmp 3) rfl w.heap.size rfl 29 (V.cells C.max) (0, 0) _ HC1.out.1 Try.underlying29 rfl (by kernel_rfl) ?_)
      | (go_at_call 29; refine HCK.out.mono ?_; rintro e w2 ⟨rfl, hb2⟩; have HB2 := Lib.hid hb2; clear hb2))
    go_ret2
    rw [HE.out]
    exact ⟨(HALL.out w2 HB2.out).2.2.2, none, 0, 0, rfl, World.ownsRow_nil _ _ _ _⟩
end Go.Proofs.Ytagffmalmkcboaa
