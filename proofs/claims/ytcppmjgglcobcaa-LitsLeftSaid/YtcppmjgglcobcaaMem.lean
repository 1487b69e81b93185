/- What it means that a slice value reads as a list of numbers, and the contracts of the functions that only read one: what is wrong with a clause. -/
import Derived.Test.YtcppmjgglcobcaaNum
import Derived.LoopTactic
import Derived.Below
import Derived.Lib.Hide
namespace Go.Proofs.Ytcppmjgglcobcaa
open Go.RowKit

/-- The slice value v reads, in w, as the numbers zs. -/
def Ints (w : World) (v : Value) (zs : List Int) : Prop :=
  (∃ A c, v = .slice A 0 c ∧ zs = []) ∨
  ∃ b off cap, v = .slice (some ⟨b, off, none⟩) zs.length cap ∧ zs.length ≤ cap ∧ cap ≤ maxLen ∧ b < w.heap.size ∧ ∀ i, i < zs.length → w.cell? ⟨b, off + i, none⟩ = some (.int .i64 (zs.getD i 0))

theorem Ints.len {w : World} {v : Value} {zs : List Int} (h : Ints w v zs) : zs.length ≤ maxLen := by
  rcases h with ⟨_, _, _, rfl⟩ | ⟨_, _, _, _, h1, h2, _⟩
  · simp
  · exact Nat.le_trans h1 h2

theorem Ints.below {w w' : World} {v : Value} {zs : List Int} (h : Ints w v zs) (hb : Below w.heap.size w w') : Ints w' v zs := by
  rcases h with h | ⟨b, off, cap, rfl, h1, h2, h3, h4⟩
  · exact .inl h
  · exact .inr ⟨b, off, cap, rfl, h1, h2, Nat.lt_of_lt_of_le h3 hb.size, fun i hi => (hb.cell h3).trans (h4 i hi)⟩

def wrongE (zs : List Int) : Int := if 16384 < zs.length then 2 else if zs.all isF then 0 else 1
theorem wrongE_long {zs : List Int} (h : 16384 < zs.length) : wrongE zs = 2 := if_pos h
theorem wrongE_ok {zs : List Int} (h : zs.length ≤ 16384) (h' : zs.all isF = true) : wrongE zs = 0 := by unfold wrongE; rw [if_neg (by omega), if_pos h']
theorem wrongE_bad {zs : List Int} (h : zs.length ≤ 16384) (h' : zs.all isF = false) : wrongE zs = 1 := by unfold wrongE; rw [if_neg (by omega), if_neg (by simp [h'])]

theorem all_take_succ {p : Int → Bool} {zs : List Int} {k : Nat} (hk : k < zs.length) (h : (zs.take k).all p = true) (hx : p (zs.getD k 0) = true) : (zs.take (k + 1)).all p = true := by
  rw [List.take_succ_eq_append_getElem hk, List.all_append, h]
  simp [List.getD, hk] at hx
  simp [hx]
theorem all_false {p : Int → Bool} {zs : List Int} {k : Nat} (hk : k < zs.length) (hx : p (zs.getD k 0) = false) : zs.all p = false := by
  simp [List.getD, hk] at hx
  rw [List.all_eq_false]
  exact ⟨_, List.getElem_mem hk, by simp [hx]⟩

theorem ret_int {k : IntKind} {a b : Int} (h : a = b) : Ending.returned (.int k a) = .returned (.int k b) := by rw [h]

set_option maxHeartbeats 400000 in
theorem check_any (w : World) (v : Value) (zs : List Int) (h : Ints w v zs) : Calls Try.prog 43 #[v] w fun e w' => e = .returned (.int .i64 (wrongE zs)) ∧ w = w' := by
  have hlen := h.len
  unfold maxLen at hlen
  rcases h with ⟨A, c, rfl, rfl⟩ | ⟨b, off, cap, rfl, h1, h2, h3, hc⟩
  · rw [wrongE_ok (by simp) (by simp)]
    go_enter Try.func43, Try.ntmps43
    go_wp2
    go_loop [10] (fun i => i = .int .i64 0) (fun i => (intOf i).toNat)
    case atStart => exact rfl
    case round =>
      subst hrel
      go_wp2
      go_ret
      exact ⟨rfl, rfl⟩
  · by_cases hl : 16384 < zs.length
    · rw [wrongE_long hl]
      go_enter Try.func43, Try.ntmps43
      go_wp2
      go_ret
      exact ⟨rfl, rfl⟩
    · have hl' : zs.length ≤ 16384 := by omega
      have HC := Lib.hid hc
      clear hc
      go_enter Try.func43, Try.ntmps43
      go_wp2
      go_loop [10] (fun i => ∃ k : Nat, k ≤ zs.length ∧ i = .int .i64 k ∧ (zs.take k).all isF = true) (fun i => zs.length - (intOf i).toNat)
      case atStart => exact ⟨0, Nat.zero_le _, rfl, by simp⟩
      case round =>
        obtain ⟨k, hk, rfl, hall⟩ := hrel
        have HA := Lib.hid hall
        clear hall
        by_cases hlt : k < zs.length
        · have hcell := HC.out k hlt
          generalize hxe : zs.getD k 0 = x at hcell
          have HX := Lib.hid hxe
          clear hxe
          cases hx : isF x
          · go_wp2_with (go_at_call 38; refine (isFormulas_any x _).mono ?_; rw [hx]; rintro e w' ⟨rfl, rfl⟩)
            go_ret
            exact ⟨ret_int (wrongE_bad hl' (all_false hlt (by rw [HX.out, hx]))).symm, rfl⟩
          · go_wp2_with (go_at_call 38; refine (isFormulas_any x _).mono ?_; rw [hx]; rintro e w' ⟨rfl, rfl⟩)
            go_round
            case rel => exact ⟨k + 1, by omega, by go_num, all_take_succ hlt HA.out (by rw [HX.out, hx])⟩
            case measure => simp [intOf]; omega
        · have : k = zs.length := by omega
          subst this
          go_wp2
          go_ret
          exact ⟨ret_int (wrongE_ok hl' (by simpa using HA.out)).symm, rfl⟩

set_option maxHeartbeats 400000 in
theorem Wrong_any (w : World) (v : Value) (zs : List Int) (h : Ints w v zs) : Calls Try.prog 45 #[v] w fun e w' => e = .returned (.int .i64 (wrongE zs)) ∧ w = w' := by
  have hlen := h.len
  unfold maxLen at hlen
  rcases h with ⟨A, c, rfl, rfl⟩ | ⟨b, off, cap, rfl, h1, h2, h3, hc⟩
  · rw [wrongE_ok (by simp) (by simp)]
    go_enter Try.func45, Try.ntmps45
    go_wp2
    go_loop [3] (fun i => i = .int .i64 0) (fun i => (intOf i).toNat)
    case atStart => exact rfl
    case round =>
      subst hrel
      go_wp2
      go_ret
      exact ⟨rfl, rfl⟩
  · by_cases hl : 16384 < zs.length
    · rw [wrongE_long hl]
      go_enter Try.func45, Try.ntmps45
      go_wp2
      go_ret
      exact ⟨rfl, rfl⟩
    · have hl' : zs.length ≤ 16384 := by omega
      have HC := Lib.hid hc
      clear hc
      go_enter Try.func45, Try.ntmps45
      go_wp2
      go_loop [3] (fun i => ∃ k : Nat, k ≤ zs.length ∧ i = .int .i64 k ∧ (zs.take k).all isF = true) (fun i => zs.length - (intOf i).toNat)
      case atStart => exact ⟨0, Nat.zero_le _, rfl, by simp⟩
      case round =>
        obtain ⟨k, hk, rfl, hall⟩ := hrel
        have HA := Lib.hid hall
        clear hall
        by_cases hlt : k < zs.length
        · have hcell := HC.out k hlt
          generalize hxe : zs.getD k 0 = x at hcell
          have HX := Lib.hid hxe
          clear hxe
          cases hx : isF x
          · go_wp2_with (go_at_call 40; refine (IsForm_any x _).mono ?_; rw [hx]; rintro e w' ⟨rfl, rfl⟩)
            go_ret
            exact ⟨ret_int (wrongE_bad hl' (all_false hlt (by rw [HX.out, hx]))).symm, rfl⟩
          · go_wp2_with (go_at_call 40; refine (IsForm_any x _).mono ?_; rw [hx]; rintro e w' ⟨rfl, rfl⟩)
            go_round
            case rel => exact ⟨k + 1, by omega, by go_num, all_take_succ hlt HA.out (by rw [HX.out, hx])⟩
            case measure => simp [intOf]; omega
        · have : k = zs.length := by omega
          subst this
          go_wp2
          go_ret
          exact ⟨ret_int (wrongE_ok hl' (by simpa using HA.out)).symm, rfl⟩

theorem ret_bool {a b : Bool} (h : a = b) : Ending.returned (.bool a) = .returned (.bool b) := by rw [h]

theorem not_mem_take_succ {zs : List Int} {k : Nat} {x : Int} (hk : k < zs.length) (h : x ∉ zs.take k) (hx : zs.getD k 0 ≠ x) : x ∉ zs.take (k + 1) := by
  rw [List.take_succ_eq_append_getElem hk]
  simp [List.getD, hk] at hx
  rw [List.mem_append, List.mem_singleton]
  rintro (e | e)
  · exact h e
  · exact hx e.symm
theorem getD_mem {zs : List Int} {k : Nat} (hk : k < zs.length) : zs.getD k 0 ∈ zs := by
  simp [List.getD, hk]

set_option maxHeartbeats 400000 in
theorem Has_any (w : World) (v : Value) (zs : List Int) (y : Int) (h : Ints w v zs) : Calls Try.prog 53 #[v, .int .i64 y] w fun e w' => e = .returned (.bool (decide (y ∈ zs))) ∧ w = w' := by
  have hlen := h.len
  unfold maxLen at hlen
  rcases h with ⟨A, c, rfl, rfl⟩ | ⟨b, off, cap, rfl, h1, h2, h3, hc⟩
  · have hd : decide (y ∈ ([] : List Int)) = false := by simp
    rw [hd]
    go_enter Try.func53, Try.ntmps53
    go_wp2
    go_loop [5] (fun i => i = .int .i64 0) (fun i => (intOf i).toNat)
    case atStart => exact rfl
    case round =>
      subst hrel
      go_wp2
      go_ret
      exact ⟨rfl, rfl⟩
  · have HC := Lib.hid hc
    clear hc
    generalize hr : decide (y ∈ zs) = r
    have HR := Lib.hid hr
    clear hr
    go_enter Try.func53, Try.ntmps53
    go_wp2
    go_loop [5] (fun i => ∃ k : Nat, k ≤ zs.length ∧ i = .int .i64 k ∧ y ∉ zs.take k) (fun i => zs.length - (intOf i).toNat)
    case atStart => exact ⟨0, Nat.zero_le _, rfl, by simp⟩
    case round =>
      obtain ⟨k, hk, rfl, hall⟩ := hrel
      have HA := Lib.hid hall
      clear hall
      by_cases hlt : k < zs.length
      · have hcell := HC.out k hlt
        generalize hxe : zs.getD k 0 = x at hcell
        have HX := Lib.hid hxe
        clear hxe
        by_cases hxy : x = y
        · subst hxy
          go_wp2
          go_ret
          exact ⟨ret_bool (by rw [← HR.out, ← HX.out]; simpa using getD_mem hlt), rfl⟩
        · have hb : (x == y) = false := by simpa using hxy
          have HXY := Lib.hid hxy
          clear hxy
          go_wp2
          go_round
          case rel => exact ⟨k + 1, by omega, by go_num, not_mem_take_succ hlt HA.out (by rw [HX.out]; exact HXY.out)⟩
          case measure => simp [intOf]; omega
      · have : k = zs.length := by omega
        subst this
        go_wp2
        go_ret
        exact ⟨ret_bool (by rw [← HR.out]; simpa using HA.out), rfl⟩

/-- How far two lists are the same. -/
theorem take_eq_succ {xs ys : List Int} {k : Nat} (h1 : k < xs.length) (h2 : k < ys.length) (h : xs.take k = ys.take k) (hx : xs.getD k 0 = ys.getD k 0) : xs.take (k + 1) = ys.take (k + 1) := by
  rw [List.take_succ_eq_append_getElem h1, List.take_succ_eq_append_getElem h2, h]
  simp [List.getD, h1, h2] at hx
  rw [hx]

theorem below_drewN {B : Nat} {a w : World} (h : Below B a w) (n : Nat) : Below B a (w.drewN n) := ⟨h.os, h.tape, h.output, h.size, h.block⟩

set_option maxHeartbeats 800000 in
theorem SameInts_any (w : World) (v u : Value) (xs ys : List Int) (h : Ints w v xs) (h' : Ints w u ys) : Calls Try.prog 48 #[v, u] w fun e w' => e = .returned (.bool (decide (xs = ys))) ∧ Below w.heap.size w w' := by
  have hlen := h.len
  have hlen' := h'.len
  unfold maxLen at hlen hlen'
  obtain ⟨p, c, rfl, hp⟩ : ∃ (p : Option Addr) (c : Nat), v = .slice p xs.length c ∧ ∀ i, i < xs.length → ∃ b off, p = some ⟨b, off, none⟩ ∧ b < w.heap.size ∧ w.cell? ⟨b, off + i, none⟩ = some (.int .i64 (xs.getD i 0)) := by
    rcases h with ⟨A, c, rfl, rfl⟩ | ⟨b, off, cap, rfl, h1, h2, h3, hc⟩
    · exact ⟨A, c, rfl, by simp⟩
    · exact ⟨_, _, rfl, fun i hi => ⟨b, off, rfl, h3, hc i hi⟩⟩
  obtain ⟨q, d, rfl, hq⟩ : ∃ (p : Option Addr) (c : Nat), u = .slice p ys.length c ∧ ∀ i, i < ys.length → ∃ b off, p = some ⟨b, off, none⟩ ∧ b < w.heap.size ∧ w.cell? ⟨b, off + i, none⟩ = some (.int .i64 (ys.getD i 0)) := by
    rcases h' with ⟨A, c, rfl, rfl⟩ | ⟨b, off, cap, rfl, h1, h2, h3, hc⟩
    · exact ⟨A, c, rfl, by simp⟩
    · exact ⟨_, _, rfl, fun i hi => ⟨b, off, rfl, h3, hc i hi⟩⟩
  clear h h'
  generalize hr : decide (xs = ys) = r
  have HR := Lib.hid hr
  clear hr
  by_cases hne : xs.length = ys.length
  · by_cases hz : xs.length = 0
    · have hr : r = true := by
        have e1 : xs = [] := by cases xs; rfl; simp at hz
        have e2 : ys = [] := by cases ys; rfl; simp at hne; omega
        rw [← HR.out, e1, e2]; simp
      rw [hr]
      rw [← hne, hz]
      clear hne hz hp hq hr HR hlen hlen'
      go_enter Try.func48, Try.ntmps48
      go_wp2
      go_loop [5] (fun i => i = .int .i64 0) (fun i => (intOf i).toNat)
      case atStart => exact rfl
      case round =>
        subst hrel
        go_wp2
        go_ret
        exact ⟨rfl, Below.refl _ _⟩
    · obtain ⟨b, off, rfl, hb, _⟩ := hp 0 (by omega)
      obtain ⟨b', off', rfl, hb', _⟩ := hq 0 (by omega)
      have HP : ∀ i, i < xs.length → w.cell? ⟨b, off + i, none⟩ = some (.int .i64 (xs.getD i 0)) := fun i hi => by
        obtain ⟨_, _, e, _, h⟩ := hp i hi
        cases e; exact h
      have HQ : ∀ i, i < ys.length → w.cell? ⟨b', off' + i, none⟩ = some (.int .i64 (ys.getD i 0)) := fun i hi => by
        obtain ⟨_, _, e, _, h⟩ := hq i hi
        cases e; exact h
      have HP := Lib.hid HP
      have HQ := Lib.hid HQ
      clear hp hq
      rw [← hne]
      rw [← hne] at hlen'
      have HM := Lib.hid hne
      clear hne
      generalize hn : xs.length = n at *
      have HN := Lib.hid hn
      clear hn
      go_enter Try.func48, Try.ntmps48
      go_wp2
      go_loopw [5] (fun i wr => ∃ k : Nat, k ≤ n ∧ i = .int .i64 k ∧ xs.take k = ys.take k ∧ Below w.heap.size w wr) (fun i _ => n - (intOf i).toNat)
      case atStart => exact ⟨0, Nat.zero_le _, rfl, by simp, Below.refl _ _⟩
      case round =>
        obtain ⟨k, hk, rfl, hall, hbw⟩ := hrel
        have HA := Lib.hid hall
        clear hall
        by_cases hlt : k < n
        · have hcell := (hbw.cell (p := ⟨b, off + k, none⟩) hb).trans (HP.out k hlt)
          have hcell' := (hbw.cell (p := ⟨b', off' + k, none⟩) hb').trans (HQ.out k (by rw [← HM.out]; exact hlt))
          generalize hxe : xs.getD k 0 = x at hcell
          generalize hye : ys.getD k 0 = y at hcell'
          have HX := Lib.hid hxe
          have HY := Lib.hid hye
          clear hxe hye
          by_cases hxy : x = y
          · subst hxy
            have hb1 : (x == x) = true := by simp
            have hb2 : (x != x) = false := by simp
            go_wp2
            go_quiet (fail)
            go_wp2
            go_roundw
            case rel => exact ⟨k + 1, by omega, by go_num, take_eq_succ (by rw [HN.out]; exact hlt) (by rw [← HM.out]; exact hlt) HA.out (by rw [HX.out, HY.out]), below_drewN hbw _⟩
            case measure => simp [intOf]; omega
          · have hb1 : (x == y) = false := by simpa using hxy
            have hb2 : (x != y) = true := by simpa using hxy
            have HXY := Lib.hid hxy
            clear hxy
            go_wp2
            go_quiet (fail)
            go_wp2
            go_ret
            refine ⟨ret_bool ?_, below_drewN hbw _⟩
            rw [← HR.out, eq_comm, decide_eq_false_iff_not]
            intro e
            exact HXY.out (by rw [← HX.out, ← HY.out, e])
        · have : k = n := by omega
          subst this
          go_wp2
          go_ret
          refine ⟨ret_bool ?_, hbw⟩
          rw [← HR.out, eq_comm, decide_eq_true_iff]
          have := HA.out
          rwa [List.take_of_length_le (by rw [HN.out]; exact Nat.le_refl _), List.take_of_length_le (by rw [← HM.out]; exact Nat.le_refl _)] at this
  · have hr : r = false := by
      rw [← HR.out, decide_eq_false_iff_not]
      intro e; exact hne (by rw [e])
    rw [hr]
    have hd : ((xs.length : Int) == (ys.length : Int)) = false := by simpa using fun e => hne (by exact_mod_cast e)
    have hd2 : ((xs.length : Int) != (ys.length : Int)) = true := by simpa using fun e => hne (by exact_mod_cast e)
    clear hp hq hr HR hne
    go_enter Try.func48, Try.ntmps48
    go_wp2
    go_ret
    exact ⟨rfl, Below.refl _ _⟩

theorem SameClause_any (w : World) (v u : Value) (xs ys : List Int) (h : Ints w v xs) (h' : Ints w u ys) : Calls Try.prog 22 #[v, u] w fun e w' => e = .returned (.bool (decide (xs = ys))) ∧ Below w.heap.size w w' := by
  have hcon := SameInts_any w v u xs ys h h'
  generalize decide (xs = ys) = r at hcon ⊢
  clear h h'
  go_enter Try.func22, Try.ntmps22
  go_wp2_with (go_at_call 48; refine hcon.mono ?_; rintro e w' ⟨rfl, hb⟩)
  go_ret
  exact ⟨rfl, hb⟩

theorem SameClause_eq (w : World) (v u : Value) (xs ys : List Int) (h : Ints w v xs) (h' : Ints w u ys) (he : xs = ys) : Calls Try.prog 22 #[v, u] w fun e w' => e = .returned (.bool true) ∧ Below w.heap.size w w' := by
  have hcon := SameClause_any w v u xs ys h h'
  rwa [decide_eq_true he] at hcon
end Go.Proofs.Ytcppmjgglcobcaa
