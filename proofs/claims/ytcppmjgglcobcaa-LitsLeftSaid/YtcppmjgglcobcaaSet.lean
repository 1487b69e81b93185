/- An assignment: what is wrong with it; the program's table of signs (settle, signOf) and the document's check (wrongly). -/
import Derived.Test.YtcppmjgglcobcaaPair2
namespace Go.Proofs.Ytcppmjgglcobcaa
open Go.RowKit Go.Shelf Go.Lib Go.Sort

def asgE (us : List Int) : Int := if 262144 < us.length then 2 else if us.all isF = true then (if taut us = true then 4 else 0) else 1
theorem asgE_long {us : List Int} (h : 262144 < us.length) : asgE us = 2 := if_pos h
theorem asgE_bad {us : List Int} (h : ¬ 262144 < us.length) (h' : us.all isF = false) : asgE us = 1 := by unfold asgE; rw [if_neg h, if_neg (by simp [h'])]
theorem asgE_taut {us : List Int} (h : ¬ 262144 < us.length) (h' : us.all isF = true) (ht : taut us = true) : asgE us = 4 := by unfold asgE; rw [if_neg h, if_pos h', if_pos ht]
theorem asgE_ok {us : List Int} (h : ¬ 262144 < us.length) (h' : us.all isF = true) (ht : taut us = false) : asgE us = 0 := by unfold asgE; rw [if_neg h, if_pos h', if_neg (by simp [ht])]
theorem asgE_zero {us : List Int} (h : asgE us = 0) : us.length ≤ 262144 ∧ us.all isF = true ∧ taut us = false := by
  by_cases h1 : 262144 < us.length
  · rw [asgE_long h1] at h; cases h
  · cases h2 : us.all isF
    · rw [asgE_bad h1 h2] at h; cases h
    · cases h3 : taut us
      · exact ⟨by omega, rfl, rfl⟩
      · rw [asgE_taut h1 h2 h3] at h; cases h

/-- The sign of a variable by a list of literals. -/
def sgn (us : List Int) (a : Nat) : Int := if (a : Int) ∈ us then 1 else if -(a : Int) ∈ us then -1 else 0
def sg (x : Int) : Int := if 0 < x then 1 else -1
theorem sgn_pos {us : List Int} {a : Nat} (h : (a : Int) ∈ us) : sgn us a = 1 := if_pos h
theorem sgn_neg {us : List Int} {a : Nat} (h : (a : Int) ∉ us) (h' : -(a : Int) ∈ us) : sgn us a = -1 := by unfold sgn; rw [if_neg h, if_pos h']
theorem sgn_zero {us : List Int} {a : Nat} (h : (a : Int) ∉ us) (h' : -(a : Int) ∉ us) : sgn us a = 0 := by unfold sgn; rw [if_neg h, if_neg h']
theorem sg_pos {x : Int} (h : 0 < x) : sg x = 1 := if_pos h
theorem sg_neg {x : Int} (h : ¬ 0 < x) : sg x = -1 := if_neg h

theorem abs_cases {x : Int} {a : Nat} (ha : absI x = ((a + 1 : Nat) : Int)) : (0 < x ∧ x = ((a + 1 : Nat) : Int)) ∨ (¬ 0 < x ∧ x = -((a + 1 : Nat) : Int)) := by
  unfold absI at ha; omega

theorem sgn_conflict {L : List Int} {x : Int} {a : Nat} (ha : absI x = ((a + 1 : Nat) : Int)) (h : sgn L (a + 1) = -sg x) : -x ∈ L := by
  rcases abs_cases ha with ⟨hp, e⟩ | ⟨hp, e⟩
  · rw [sg_pos hp] at h
    by_cases h1 : ((a + 1 : Nat) : Int) ∈ L
    · rw [sgn_pos h1] at h; cases h
    · by_cases h2 : -((a + 1 : Nat) : Int) ∈ L
      · rw [e]; exact h2
      · rw [sgn_zero h1 h2] at h; cases h
  · rw [sg_neg hp] at h
    by_cases h1 : ((a + 1 : Nat) : Int) ∈ L
    · rw [e, Int.neg_neg]; exact h1
    · by_cases h2 : -((a + 1 : Nat) : Int) ∈ L
      · rw [sgn_neg h1 h2] at h; cases h
      · rw [sgn_zero h1 h2] at h; cases h

theorem sgn_step {L L' : List Int} {x : Int} {a : Nat} (ha : absI x = ((a + 1 : Nat) : Int)) (hm : ∀ y, y ∈ L' ↔ y ∈ L ∨ y = x) (h : sgn L (a + 1) ≠ -sg x) (b : Nat) :
    sgn L' b = if b = a + 1 then sg x else sgn L b := by
  by_cases hb : b = a + 1
  · subst hb
    rw [if_pos rfl]
    rcases abs_cases ha with ⟨hp, e⟩ | ⟨hp, e⟩
    · rw [sg_pos hp]; exact sgn_pos ((hm _).2 (.inr e.symm))
    · rw [sg_neg hp]
      refine sgn_neg (fun h1 => ?_) ((hm _).2 (.inr e.symm))
      rcases (hm _).1 h1 with h1 | h1
      · exact h (by rw [sgn_pos h1, sg_neg hp]; rfl)
      · omega
  · rw [if_neg hb]
    have h1 : ((b : Nat) : Int) ∈ L' ↔ ((b : Nat) : Int) ∈ L := by
      rw [hm]
      constructor
      · rintro (h | h)
        · exact h
        · rcases abs_cases ha with ⟨hp, e⟩ | ⟨hp, e⟩ <;> omega
      · exact .inl
    have h2 : -((b : Nat) : Int) ∈ L' ↔ -((b : Nat) : Int) ∈ L := by
      rw [hm]
      constructor
      · rintro (h | h)
        · exact h
        · rcases abs_cases ha with ⟨hp, e⟩ | ⟨hp, e⟩ <;> omega
      · exact .inl
    unfold sgn
    simp only [h1, h2]

theorem nt_step {L L' : List Int} {x : Int} {a : Nat} (ha : absI x = ((a + 1 : Nat) : Int)) (hm : ∀ y, y ∈ L' ↔ y ∈ L ∨ y = x) (hnt : ∀ y ∈ L, -y ∉ L) (h : -x ∉ L) : ∀ y ∈ L', -y ∉ L' := by
  intro y hy hn
  have hx0 : x ≠ 0 := by rcases abs_cases ha with ⟨_, e⟩ | ⟨_, e⟩ <;> omega
  rcases (hm y).1 hy with h1 | h1
  · rcases (hm _).1 hn with h2 | h2
    · exact hnt y h1 h2
    · exact h (by rw [← h2, Int.neg_neg]; exact h1)
  · subst h1
    rcases (hm _).1 hn with h2 | h2
    · exact h h2
    · omega

theorem no_conflict {L : List Int} {x : Int} {a : Nat} (ha : absI x = ((a + 1 : Nat) : Int)) (h : sgn L (a + 1) ≠ -sg x) (hnt : ∀ y ∈ L, -y ∉ L) : -x ∉ L := by
  intro hn
  rcases abs_cases ha with ⟨hp, e⟩ | ⟨hp, e⟩
  · refine h ?_
    rw [sg_pos hp]
    rw [e] at hn
    refine sgn_neg (fun h1 => ?_) hn
    exact hnt _ h1 hn
  · refine h ?_
    rw [sg_neg hp]
    rw [e, Int.neg_neg] at hn
    exact sgn_pos hn

/-! ### the table of signs in memory -/
theorem i8_info : (Try.prog.info? 57).map (fun i => (i.zero, i.size, i.bytes)) = some (some (.int .i8 0), 1, 1) := by kernel_rfl

theorem run_makeSigns (n : Nat) (hn : n ≤ 1000000) (w : World) : ∃ cur : Array Value, cur.size = n ∧ (∀ i, i < n → cur[i]? = some (.int .i8 0)) ∧ (Instr.makeSlice 54 (.int .i64 n) (.int .i64 n)).run Try.prog w = .ok (.slice (some ⟨w.heap.size, 0, none⟩) n n) (w.alloc (.cells cur 57)) := by
  obtain ⟨i0, hi0, hz0, hz1, hz2⟩ := info_parts i8_info
  have h := run_make (P := Try.prog) w 54 57 i0 _ Try.underlying54 hi0 hz0 .i64 .i64 n n (by omega) (Int.le_refl _) (by rw [hz2]; omega) (by omega)
  refine ⟨madeCells (Value.int .i8 0).cells n, by simp [size_madeCells], fun i hi => ?_, ?_⟩
  · simp [madeCells, hi, Value.cells, Nat.mod_one]
  · rw [h, hz1]; simp

/-- Block g holds, for each variable up to G, its sign by L; none of the cells is frozen. -/
def Signs (w : World) (g G : Nat) (L : List Int) : Prop := g < w.heap.size ∧ (∀ a, a ≤ G → w.cell? ⟨g, a, none⟩ = some (.int .i8 (sgn L a)) ∧ w.frozen? ⟨g, a, none⟩ = false) ∧ ∀ x ∈ L, absI x ≤ G
theorem Signs.below {w w' : World} {g G : Nat} {L : List Int} (h : Signs w g G L) (hb : Below w.heap.size w w') : Signs w' g G L :=
  ⟨Nat.lt_of_lt_of_le h.1 hb.size, fun a ha => ⟨(hb.cell (p := ⟨g, a, none⟩) h.1).trans (h.2.1 a ha).1, (hb.frozen (p := ⟨g, a, none⟩) h.1).trans (h.2.1 a ha).2⟩, h.2.2⟩
theorem Signs.start {w : World} {G : Nat} {cur : Array Value} (h1 : cur.size = G + 1) (h2 : ∀ i, i < G + 1 → cur[i]? = some (.int .i8 0)) : Signs (w.alloc (.cells cur 57)) w.heap.size G [] := by
  refine ⟨by simp, fun a ha => ⟨?_, Blk.frozen (Blk.new w 57 cur) a⟩, by simp⟩
  rw [cell_of_row _ _ _ cur 57 (0, 0) (heap_alloc_new w _), h2 a (by omega)]
  rfl
theorem Signs.put {w : World} {g G a : Nat} {L L' : List Int} {x : Int} (h : Signs w g G L) (ha : absI x = ((a + 1 : Nat) : Int)) (haG : a + 1 ≤ G) (hm : ∀ y, y ∈ L' ↔ y ∈ L ∨ y = x) (hc : sgn L (a + 1) ≠ -sg x) :
    Signs (w.setCell ⟨g, a + 1, none⟩ (.int .i8 (sg x))) g G L' := by
  refine ⟨by simpa [World.setCell] using h.1, fun b hb => ⟨?_, (World.frozen?_setCell _ _ _ _).trans (h.2.1 b hb).2⟩, fun y hy => ?_⟩
  · rw [sgn_step ha hm hc b]
    by_cases e : b = a + 1
    · subst e
      rw [if_pos rfl]
      exact World.cell?_setCell_same _ _ _ (h.2.1 _ hb).1
    · rw [if_neg e]
      exact (World.cell?_setCell_other _ _ _ _ (by intro e'; simp only [Addr.mk.injEq] at e'; omega)).trans (h.2.1 b hb).1
  · rcases (hm y).1 hy with h1 | h1
    · exact h.2.2 y h1
    · subst h1; rw [ha]; omega

def SettlePost (w : World) (us : List Int) (e : Ending) (w' : World) : Prop :=
  Below w.heap.size w w' ∧ ((asgE us ≠ 0 ∧ e = .returned (.tuple #[.slice none 0 0, .int .i64 (asgE us)])) ∨
    (asgE us = 0 ∧ ∃ g G, e = .returned (.tuple #[.slice (some ⟨g, 0, none⟩) (G + 1) (G + 1), .int .i64 0]) ∧ G ≤ 262144 ∧ Signs w' g G us))

theorem taut_take {us : List Int} {k : Nat} {x : Int} (hx : x ∈ us) (h : -x ∈ us.take k) : taut us = true := taut_true.2 ⟨x, hx, List.mem_of_mem_take h⟩

theorem compare_pos {x : Int} (h : 0 < x) : compareInt x 0 = 1 := by unfold compareInt; rw [if_neg (by omega), if_pos h]
theorem compare_neg {x : Int} (h : x < 0) : compareInt x 0 = -1 := if_pos h

set_option maxHeartbeats 4000000 in
theorem settle_any (w : World) (v : Value) (us : List Int) (h : Ints w v us) : Calls Try.prog 50 #[v] w (SettlePost w us) := by
  obtain ⟨A, c, rfl, hr⟩ := h.reads
  have hmax := h.len
  unfold maxLen at hmax
  by_cases hlong : 262144 < us.length
  · have e1 := asgE_long hlong
    have HE := Lib.hid e1
    clear h e1 hr
    go_enter Try.func50, Try.ntmps50
    go_wp2
    go_ret2
    exact ⟨Below.refl _ _, .inl ⟨by rw [HE.out]; decide, by rw [HE.out]; rfl⟩⟩
  · have hl : us.length ≤ 262144 := by omega
    have HNL := Lib.hid hlong
    have HR := Lib.hid hr
    generalize hn : us.length = n at *
    have HN := Lib.hid hn
    clear h hlong hr hn
    go_enter Try.func50, Try.ntmps50
    go_wp2
    go_loop [4, 15] (fun q i => ∃ (k G : Nat), k ≤ n ∧ i = .int .i64 k ∧ q = .int .i64 G ∧ G ≤ 262144 ∧ (us.take k).all isF = true ∧ ∀ x ∈ us.take k, absI x ≤ G) (fun _ i => n - (intOf i).toNat)
    case atStart => exact ⟨0, 0, Nat.zero_le _, rfl, rfl, by omega, by simp, by simp⟩
    case round =>
      obtain ⟨k, G, hk, rfl, rfl, hG, hall, hle⟩ := hrel
      have HA := Lib.hid hall
      have HLE := Lib.hid hle
      clear hall hle
      by_cases hlt : k < n
      · obtain ⟨ad, q, rfl, _, hq, hcell⟩ := HR.out.at_ hlt
        have hkl : k < us.length := by rw [HN.out]; exact hlt
        have hq' : q = .int .i64 (us.getD k 0) := by
          simp [hkl] at hq
          simp [List.getD, hkl, ← hq]
        subst hq'
        have hms := take_mem_succ hkl
        generalize hxe : us.getD k 0 = x at hcell hms
        have HMS := Lib.hid hms
        have HX := Lib.hid hxe
        have HK := Lib.hid hkl
        clear hq hms hxe hkl
        cases hx : isF x
        · go_wp2_with (go_at_call 38; refine (isFormulas_any x _).mono ?_; rw [hx]; rintro e w' ⟨rfl, rfl⟩)
          go_ret2
          have e1 := asgE_bad (us := us) (by rw [HN.out]; exact HNL.out) (all_false HK.out (by rw [HX.out, hx]))
          exact ⟨Below.refl _ _, .inl ⟨by rw [e1]; decide, by rw [e1]; rfl⟩⟩
        · obtain ⟨hx0, hx1, hx2⟩ := isF_yes hx
          have hv := fun w => variable_any x w hx1 hx2
          have ha1 : 1 ≤ absI x := by unfold absI; omega
          have ha2 : absI x ≤ 262144 := by unfold absI; omega
          obtain ⟨a, ha⟩ : ∃ a : Nat, absI x = (a : Int) := ⟨(absI x).toNat, by omega⟩
          rw [ha] at hv ha1 ha2
          have HAX := Lib.hid ha
          have HXF := Lib.hid hx
          clear ha hx0 hx1 hx2
          by_cases hag : a ≤ G
          · go_wp2_with (first | (go_at_call 38; refine (isFormulas_any x _).mono ?_; rw [hx]; rintro e w' ⟨rfl, rfl⟩) | (go_at_call 39; refine (hv _).mono ?_; rintro e w' ⟨rfl, rfl⟩))
            go_round
            case rel =>
              refine ⟨k + 1, G, by omega, by go_num, by go_num, hG, all_take_succ HK.out HA.out (by rw [HX.out]; exact HXF.out), fun y hy => ?_⟩
              rcases (HMS.out y).1 hy with h1 | h1
              · exact HLE.out y h1
              · subst h1; rw [HAX.out]; omega
            case measure => simp [intOf]; omega
          · go_wp2_with (first | (go_at_call 38; refine (isFormulas_any x _).mono ?_; rw [hx]; rintro e w' ⟨rfl, rfl⟩) | (go_at_call 39; refine (hv _).mono ?_; rintro e w' ⟨rfl, rfl⟩))
            go_round
            case rel =>
              refine ⟨k + 1, a, by omega, by go_num, by go_num, by omega, all_take_succ HK.out HA.out (by rw [HX.out]; exact HXF.out), fun y hy => ?_⟩
              rcases (HMS.out y).1 hy with h1 | h1
              · have := HLE.out y h1; omega
              · subst h1; rw [HAX.out]; exact Int.le_refl _
            case measure => simp [intOf]; omega
      · have e : k = n := by omega
        subst e
        have hall := HA.out
        have hle := HLE.out
        rw [List.take_of_length_le (by rw [HN.out]; exact Nat.le_refl _)] at hall hle
        have HF := Lib.hid hall
        have HLE2 := Lib.hid hle
        obtain ⟨cur, hcur1, hcur2, hmk⟩ := run_makeSigns (G + 1) (by omega) w
        have HS0 := Lib.hid (Signs.start (w := w) hcur1 hcur2)
        clear hall hle hcur1 hcur2
        have hmk' : (Instr.makeSlice 54 (.int .i64 ((G : Int) + 1)) (.int .i64 ((G : Int) + 1))).run Try.prog w = .ok (.slice (some ⟨w.heap.size, 0, none⟩) (G + 1) (G + 1)) (w.alloc (.cells cur 57)) := by
          have := hmk; rwa [show (((G + 1 : Nat) : Int)) = (G : Int) + 1 by omega] at this
        clear hmk
        have HB0 : Hid (Below w.heap.size w (w.alloc (.cells cur 57))) := (Below.refl _ _).alloc (Nat.le_refl _) _
        go_wp2
        go_loopw [37] (fun i wr => ∃ (j : Nat), j ≤ k ∧ i = .int .i64 j ∧ Below w.heap.size w wr ∧ Signs wr w.heap.size G (us.take j) ∧ ∀ y ∈ us.take j, -y ∉ us.take j) (fun i _ => k - (intOf i).toNat)
        case atStart => exact ⟨0, Nat.zero_le _, rfl, HB0.out, by simpa using HS0.out, by simp⟩
        case round =>
          obtain ⟨j, hj, rfl, hbw, hsi, hnt⟩ := hrel
          have HSI := Lib.hid hsi
          have HNT := Lib.hid hnt
          clear hsi hnt
          by_cases hlj : j < k
          · obtain ⟨ad, q, rfl, _, hq, hcell⟩ := (HR.out.below hbw).at_ hlj
            have hkl : j < us.length := by rw [HN.out]; exact hlj
            have hq' : q = .int .i64 (us.getD j 0) := by
              simp [hkl] at hq
              simp [List.getD, hkl, ← hq]
            subst hq'
            have hms := take_mem_succ hkl
            have hxm := getD_mem hkl
            have hFx := isF_yes (List.all_eq_true.1 HF.out _ hxm)
            generalize us.getD j 0 = x at hcell hms hxm hFx
            have HMS := Lib.hid hms
            have HXM := Lib.hid hxm
            have hv := fun w => variable_any x w hFx.2.1 hFx.2.2
            have ha1 : 1 ≤ absI x := by unfold absI; omega
            obtain ⟨a, ha⟩ : ∃ a : Nat, absI x = ((a + 1 : Nat) : Int) := ⟨(absI x - 1).toNat, by omega⟩
            have haG : a + 1 ≤ G := by have := HLE2.out x hxm; omega
            rw [ha] at hv
            have HAX := Lib.hid ha
            have hcc := (HSI.out.2.1 (a + 1) haG).1
            have hfr := (HSI.out.2.1 (a + 1) haG).2
            generalize hcve : sgn (us.take j) (a + 1) = cv at hcc
            have HCV := Lib.hid hcve
            have hx0 := hFx.1
            clear hq hms hkl hxm hFx ha1 ha hcve
            by_cases hp : 0 < x
            · have HP := Lib.hid hp
              have hcmp := Try.cmp_Compare_int x 0
              rw [compare_pos hp] at hcmp
              have hsg := sg_pos hp
              have HSG := Lib.hid hsg
              clear hsg
              by_cases hcf1 : cv = -1
              · subst hcf1
                have HT := Lib.hid (taut_take HXM.out (sgn_conflict HAX.out (by rw [HCV.out, HSG.out] <;> rfl)))
                go_wp2_with (first | (go_at_call 64; refine (hcmp _).mono ?_; rintro e w' ⟨rfl, rfl⟩) | (go_at_call 39; refine (hv _).mono ?_; rintro e w' ⟨rfl, rfl⟩))
                go_ret2
                have e1 := asgE_taut (us := us) (by rw [HN.out]; exact HNL.out) HF.out HT.out
                exact ⟨hbw, .inl ⟨by rw [e1]; decide, by rw [e1]; rfl⟩⟩
              · have hq1 : (cv == -1) = false := by simpa using hcf1
                have HCF := Lib.hid (show sgn (us.take j) (a + 1) ≠ -sg x by rw [HCV.out, HSG.out]; exact hcf1)
                clear hcf1
                go_wp2_with (first | (go_at_call 64; refine (hcmp _).mono ?_; rintro e w' ⟨rfl, rfl⟩) | (go_at_call 39; refine (hv _).mono ?_; rintro e w' ⟨rfl, rfl⟩))
                go_roundw
                case rel =>
                  have hput := HSI.out.put HAX.out haG HMS.out HCF.out
                  rw [HSG.out] at hput
                  exact ⟨j + 1, by omega, by go_num, hbw.setCell (Nat.le_refl _) _, hput, nt_step HAX.out HMS.out HNT.out (no_conflict HAX.out HCF.out HNT.out)⟩
                case measure => simp [intOf]; omega
            · have HP : Hid (x < 0) := (show x < 0 by omega)
              have hcmp := Try.cmp_Compare_int x 0
              rw [compare_neg HP.out] at hcmp
              have hsg := sg_neg hp
              have HSG := Lib.hid hsg
              clear hsg
              by_cases hcf1 : cv = 1
              · subst hcf1
                have HT := Lib.hid (taut_take HXM.out (sgn_conflict HAX.out (by rw [HCV.out, HSG.out] <;> rfl)))
                go_wp2_with (first | (go_at_call 64; refine (hcmp _).mono ?_; rintro e w' ⟨rfl, rfl⟩) | (go_at_call 39; refine (hv _).mono ?_; rintro e w' ⟨rfl, rfl⟩))
                go_ret2
                have e1 := asgE_taut (us := us) (by rw [HN.out]; exact HNL.out) HF.out HT.out
                exact ⟨hbw, .inl ⟨by rw [e1]; decide, by rw [e1]; rfl⟩⟩
              · have hq1 : (cv == 1) = false := by simpa using hcf1
                have HCF := Lib.hid (show sgn (us.take j) (a + 1) ≠ -sg x by rw [HCV.out, HSG.out]; exact hcf1)
                clear hcf1
                go_wp2_with (first | (go_at_call 64; refine (hcmp _).mono ?_; rintro e w' ⟨rfl, rfl⟩) | (go_at_call 39; refine (hv _).mono ?_; rintro e w' ⟨rfl, rfl⟩))
                go_roundw
                case rel =>
                  have hput := HSI.out.put HAX.out haG HMS.out HCF.out
                  rw [HSG.out] at hput
                  exact ⟨j + 1, by omega, by go_num, hbw.setCell (Nat.le_refl _) _, hput, nt_step HAX.out HMS.out HNT.out (no_conflict HAX.out HCF.out HNT.out)⟩
                case measure => simp [intOf]; omega
          · have e : j = k := by omega
            subst e
            go_wp2
            go_ret2
            have hs := HSI.out
            have hnt := HNT.out
            rw [List.take_of_length_le (by rw [HN.out]; exact Nat.le_refl _)] at hs hnt
            exact ⟨hbw, .inr ⟨asgE_ok (by rw [HN.out]; exact HNL.out) HF.out (taut_false.2 hnt), _, G, rfl, hG, hs⟩⟩
end Go.Proofs.Ytcppmjgglcobcaa
