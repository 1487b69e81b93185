/- The document's check of an assignment (wrongly) says what is wrong with it. -/
import Derived.Test.YtcppmjgglcobcaaSet
namespace Go.Proofs.Ytcppmjgglcobcaa
open Go.RowKit Go.Shelf Go.Lib Go.Sort

theorem run_makeSeen (w : World) : ∃ (M : Nat) (cur : Array Value), M = 262145 ∧ cur.size = M ∧ (∀ i, i < M → cur[i]? = some (.int .i64 0)) ∧ (Instr.makeSlice 27 (.int .i64 262145) (.int .i64 262145)).run Try.prog w = .ok (.slice (some ⟨w.heap.size, 0, none⟩) M M) (w.alloc (.cells cur 3)) := by
  obtain ⟨i0, hi0, hz0, hz1, hz2⟩ := info_parts int_info
  obtain ⟨M, hM⟩ : ∃ M : Nat, M = 262145 := ⟨_, rfl⟩
  have h := run_make (P := Try.prog) w 27 3 i0 _ Try.underlying27 hi0 hz0 .i64 .i64 M M (by omega) (Int.le_refl _) (by rw [hz2]; omega) (by omega)
  refine ⟨M, madeCells (Value.int .i64 0).cells M, hM, by simp [size_madeCells], fun i hi => ?_, ?_⟩
  · simp [madeCells, hi, Value.cells, Nat.mod_one]
  · rw [hz1] at h
    have e : (262145 : Int) = (M : Int) := by omega
    rw [e, h]; simp

/-- Block g holds, for each variable, the literal of it that L has (0: none). -/
def Seen (w : World) (g M : Nat) (L : List Int) : Prop := g < w.heap.size ∧ ∀ a, a < M → w.cell? ⟨g, a, none⟩ = some (.int .i64 (a * sgn L a)) ∧ w.frozen? ⟨g, a, none⟩ = false
theorem Seen.below {w w' : World} {g M : Nat} {L : List Int} (h : Seen w g M L) (hb : Below w.heap.size w w') : Seen w' g M L :=
  ⟨Nat.lt_of_lt_of_le h.1 hb.size, fun a ha => ⟨(hb.cell (p := ⟨g, a, none⟩) h.1).trans (h.2 a ha).1, (hb.frozen (p := ⟨g, a, none⟩) h.1).trans (h.2 a ha).2⟩⟩
theorem Seen.start {w : World} {M : Nat} {cur : Array Value} (h2 : ∀ i, i < M → cur[i]? = some (.int .i64 0)) : Seen (w.alloc (.cells cur 3)) w.heap.size M [] := by
  refine ⟨by simp, fun a ha => ⟨?_, Blk.frozen (Blk.new w 3 cur) a⟩⟩
  rw [cell_of_row _ _ _ cur 3 (0, 0) (heap_alloc_new w _), h2 a ha]
  have : sgn [] a = 0 := sgn_zero (by simp) (by simp)
  rw [this]; simp
theorem Seen.drewN {w : World} {g M : Nat} {L : List Int} (h : Seen w g M L) (n : Nat) : Seen (w.drewN n) g M L := h
theorem sg_mul {x : Int} {a : Nat} (ha : absI x = ((a + 1 : Nat) : Int)) : ((a + 1 : Nat) : Int) * sg x = x := by
  rcases abs_cases ha with ⟨hp, e⟩ | ⟨hp, e⟩
  · rw [sg_pos hp, e]; simp
  · rw [sg_neg hp]; rw [e]; omega
theorem Seen.put {w : World} {g M a : Nat} {L L' : List Int} {x : Int} (h : Seen w g M L) (ha : absI x = ((a + 1 : Nat) : Int)) (haG : a + 1 < M) (hm : ∀ y, y ∈ L' ↔ y ∈ L ∨ y = x) (hc : sgn L (a + 1) ≠ -sg x) :
    Seen (w.setCell ⟨g, a + 1, none⟩ (.int .i64 x)) g M L' := by
  refine ⟨by simpa [World.setCell] using h.1, fun b hb => ⟨?_, (World.frozen?_setCell _ _ _ _).trans (h.2 b hb).2⟩⟩
  rw [sgn_step ha hm hc b]
  by_cases e : b = a + 1
  · subst e
    rw [if_pos rfl, sg_mul ha]
    exact World.cell?_setCell_same _ _ _ (h.2 _ hb).1
  · rw [if_neg e]
    exact (World.cell?_setCell_other _ _ _ _ (by intro e'; simp only [Addr.mk.injEq] at e'; omega)).trans (h.2 b hb).1

theorem sgn_three (L : List Int) (a : Nat) (x : Int) : sgn L a = 0 ∨ sgn L a = sg x ∨ sgn L a = -sg x := by
  unfold sgn sg
  by_cases h1 : (a : Int) ∈ L <;> by_cases h2 : -(a : Int) ∈ L <;> by_cases h3 : 0 < x <;> simp [h1, h2, h3]
theorem sg_ne (x : Int) : sg x ≠ -sg x ∧ (0 : Int) ≠ -sg x := by unfold sg; split <;> decide

set_option maxHeartbeats 4000000 in
theorem wrongly_any (w : World) (v : Value) (us : List Int) (h : Ints w v us) : Calls Try.prog 52 #[v] w fun e w' => e = .returned (.int .i64 (asgE us)) ∧ Below w.heap.size w w' := by
  obtain ⟨A, c, rfl, hr⟩ := h.reads
  have hmax := h.len
  unfold maxLen at hmax
  by_cases hlong : 262144 < us.length
  · have HE := Lib.hid (asgE_long hlong)
    clear h hr
    go_enter Try.func52, Try.ntmps52
    go_wp2
    go_ret
    exact ⟨ret_int HE.out.symm, Below.refl _ _⟩
  · have hl : us.length ≤ 262144 := by omega
    have HNL := Lib.hid hlong
    have HR := Lib.hid hr
    generalize hn : us.length = n at *
    have HN := Lib.hid hn
    obtain ⟨M, cur, hM, _, hcur2, hmk⟩ := run_makeSeen w
    have HS0 := Lib.hid (Seen.start (w := w) hcur2)
    have hM1 : 262145 ≤ M := by omega
    have hM2 : M ≤ 262145 := by omega
    clear h hlong hr hn hM hcur2
    go_enter Try.func52, Try.ntmps52
    go_wp2
    go_loop [3] (fun i => ∃ (k : Nat), k ≤ n ∧ i = .int .i64 k ∧ (us.take k).all isF = true) (fun i => n - (intOf i).toNat)
    case atStart => exact ⟨0, Nat.zero_le _, rfl, by simp⟩
    case round =>
      obtain ⟨k, hk, rfl, hall⟩ := hrel
      have HA := Lib.hid hall
      clear hall
      by_cases hlt : k < n
      · obtain ⟨ad, q, rfl, _, hq, hcell⟩ := HR.out.at_ hlt
        have hkl : k < us.length := by rw [HN.out]; exact hlt
        have hq' : q = .int .i64 (us.getD k 0) := by
          simp [hkl] at hq
          simp [List.getD, hkl, ← hq]
        subst hq'
        generalize hxe : us.getD k 0 = x at hcell
        have HX := Lib.hid hxe
        have HK := Lib.hid hkl
        clear hq hxe hkl
        cases hx : isF x
        · go_wp2_with (go_at_call 40; refine (IsForm_any x _).mono ?_; rw [hx]; rintro e w' ⟨rfl, rfl⟩)
          go_ret
          have e1 := asgE_bad (us := us) (by rw [HN.out]; exact HNL.out) (all_false HK.out (by rw [HX.out, hx]))
          exact ⟨ret_int e1.symm, Below.refl _ _⟩
        · have HXF := Lib.hid hx
          go_wp2_with (go_at_call 40; refine (IsForm_any x _).mono ?_; rw [hx]; rintro e w' ⟨rfl, rfl⟩)
          go_round
          case rel => exact ⟨k + 1, by omega, by go_num, all_take_succ HK.out HA.out (by rw [HX.out]; exact HXF.out)⟩
          case measure => simp [intOf]; omega
      · have e : k = n := by omega
        subst e
        have hall := HA.out
        rw [List.take_of_length_le (by rw [HN.out]; exact Nat.le_refl _)] at hall
        have HF := Lib.hid hall
        have HB0 : Hid (Below w.heap.size w (w.alloc (.cells cur 3))) := (Below.refl _ _).alloc (Nat.le_refl _) _
        clear hall
        go_wp2
        go_loopw [5] (fun i wr => ∃ (j : Nat), j ≤ k ∧ i = .int .i64 j ∧ Below w.heap.size w wr ∧ Seen wr w.heap.size M (us.take j) ∧ ∀ y ∈ us.take j, -y ∉ us.take j) (fun i _ => k - (intOf i).toNat)
        case atStart => exact ⟨0, Nat.zero_le _, rfl, HB0.out, by simpa using HS0.out, by simp⟩
        case round =>
          obtain ⟨j, hj, rfl, hbw, hsi, hnt⟩ := hrel
          have HSI := Lib.hid hsi
          have HNT := Lib.hid hnt
          clear hsi hnt
          by_cases hlj : j < k
          · obtain ⟨ad, q, rfl, hadw, hq, hcell⟩ := (HR.out.below hbw).at_ hlj
            have hkl : j < us.length := by rw [HN.out]; exact hlj
            have hq' : q = .int .i64 (us.getD j 0) := by
              simp [hkl] at hq
              simp [List.getD, hkl, ← hq]
            subst hq'
            have hms := take_mem_succ hkl
            have hxm := getD_mem hkl
            have hFx := isF_yes (List.all_eq_true.1 HF.out _ hxm)
            generalize us.getD j 0 = x at hcell hms hxm hFx
            have HMS := Lib.hid hms
            have HXM := Lib.hid hxm
            have hv := fun w => Abs_any x w hFx.2.1 hFx.2.2
            have ha1 : 1 ≤ absI x ∧ absI x ≤ 262144 := by unfold absI; omega
            obtain ⟨a, ha⟩ : ∃ a : Nat, absI x = ((a + 1 : Nat) : Int) := ⟨(absI x - 1).toNat, by omega⟩
            have haG : a + 1 < M := by omega
            rw [ha] at hv
            have HAX := Lib.hid ha
            have hcc := (HSI.out.2 (a + 1) haG).1
            have hfr := (HSI.out.2 (a + 1) haG).2
            have hx0 := hFx.1
            have hmul := sg_mul ha
            clear hq hms hkl hxm hFx ha1 ha
            rcases sgn_three (us.take j) (a + 1) x with hs | hs | hs
            · rw [hs, Int.mul_zero] at hcc
              have HCF := Lib.hid (show sgn (us.take j) (a + 1) ≠ -sg x by rw [hs]; exact (sg_ne x).2)
              clear hs hmul hx0
              go_wp2_with (first | (go_at_call 41; refine (hv _).mono ?_; rintro e w' ⟨rfl, rfl⟩))
              go_quiet (fail)
              go_wp2
              go_roundw
              case rel => exact ⟨j + 1, by omega, by go_num, (below_drewN hbw _).setCell (Nat.le_refl _) _, (HSI.out.drewN _).put HAX.out haG HMS.out HCF.out, nt_step HAX.out HMS.out HNT.out (no_conflict HAX.out HCF.out HNT.out)⟩
              case measure => simp [intOf]; omega
            · rw [hs, hmul] at hcc
              have HCF := Lib.hid (show sgn (us.take j) (a + 1) ≠ -sg x by rw [hs]; exact (sg_ne x).1)
              have q1 : (x != 0) = true := by simpa using hx0
              have q2 : (x == 0) = false := by simpa using hx0
              have q3 : (x != x) = false := by simp
              have q4 : (x == x) = true := by simp
              clear hs hmul hx0
              go_wp2_with (first | (go_at_call 41; refine (hv _).mono ?_; rintro e w' ⟨rfl, rfl⟩))
              go_quiet (fail)
              go_wp2
              go_roundw
              case rel => exact ⟨j + 1, by omega, by go_num, (below_drewN hbw _).setCell (Nat.le_refl _) _, (HSI.out.drewN _).put HAX.out haG HMS.out HCF.out, nt_step HAX.out HMS.out HNT.out (no_conflict HAX.out HCF.out HNT.out)⟩
              case measure => simp [intOf]; omega
            · rw [hs, Int.mul_neg, hmul] at hcc
              have HT := Lib.hid (taut_take HXM.out (sgn_conflict HAX.out hs))
              obtain ⟨y, hy⟩ : ∃ y, y = -x := ⟨_, rfl⟩
              rw [← hy] at hcc
              have q1 : (y != 0) = true := by simp; omega
              have q2 : (y == 0) = false := by simp; omega
              have q3 : (y != x) = true := by simp; omega
              have q4 : (y == x) = false := by simp; omega
              clear hs hmul hx0 hy
              go_wp2_with (first | (go_at_call 41; refine (hv _).mono ?_; rintro e w' ⟨rfl, rfl⟩))
              go_quiet (fail)
              go_wp2
              go_ret
              have e1 := asgE_taut (us := us) (by rw [HN.out]; exact HNL.out) HF.out HT.out
              exact ⟨ret_int e1.symm, below_drewN hbw _⟩
          · have e : j = k := by omega
            subst e
            go_wp2
            go_ret
            have hnt := HNT.out
            rw [List.take_of_length_le (by rw [HN.out]; exact Nat.le_refl _)] at hnt
            have e1 := asgE_ok (us := us) (by rw [HN.out]; exact HNL.out) HF.out (taut_false.2 hnt)
            exact ⟨ret_int e1.symm, hbw⟩
end Go.Proofs.Ytcppmjgglcobcaa
