/- The contracts of the statements' own helpers on lists of numbers: a copy, a copy lent with one number more behind its end, whether such a copy was kept, a list written over with a mark. -/
import Derived.Test.YtcppmjgglcobcaaMem
import Derived.Test.YtcppmjgglcobcaaWords
namespace Go.Proofs.Ytcppmjgglcobcaa
open Go.RowKit

theorem int_info : (Try.prog.info? 3).map (fun i => (i.zero, i.size, i.bytes)) = some (some (.int .i64 0), 1, 8) := by kernel_rfl

abbrev ints (zs : List Int) : List Value := zs.map (Value.int .i64)

theorem ints_one (zs : List Int) : ∀ u ∈ ints zs, u.oneCell' = true := by
  intro u hu
  obtain ⟨z, _, rfl⟩ := List.mem_map.1 hu
  rfl

theorem add_none (b off k : Nat) : (⟨b, off, none⟩ : Addr).add k = ⟨b, off + k, none⟩ := by
  unfold Addr.add; split <;> simp_all

theorem Ints.reads {w : World} {v : Value} {zs : List Int} (h : Ints w v zs) : ∃ A c, v = .slice A zs.length c ∧ Reads w w.heap.size 1 A zs.length (ints zs) := by
  rcases h with ⟨A, c, rfl, rfl⟩ | ⟨b, off, cap, rfl, h1, h2, h3, h4⟩
  · exact ⟨A, c, rfl, by simp, by simp⟩
  · refine ⟨_, _, rfl, by simp, fun hn => ⟨_, rfl, h3, fun j u hu => ?_⟩⟩
    have hj : j < zs.length := by
      have := (List.getElem?_eq_some_iff.1 hu).1
      simpa using this
    rw [add_none, h4 j hj]
    simp [List.getD, hj] at hu ⊢
    rw [← hu]

/-- A row of the call's own reads as its numbers. -/
theorem own_ints {w : World} {B : Nat} {v : Value} {zs : List Int} (h : w.ownsRow B 3 1 v zs.length (ints zs)) : Ints w v zs := by
  rcases h.2 with ⟨rfl, h0⟩ | ⟨g, cap, cur, rfl, hb, hg, h1, h2, h3, h4⟩
  · exact .inl ⟨_, _, rfl, List.eq_nil_of_length_eq_zero h0⟩
  · refine .inr ⟨g, 0, cap, rfl, h1, h2, (Array.getElem?_eq_some_iff.1 hg).1, fun i hi => ?_⟩
    have := h.cells (g := g) rfl i (.int .i64 (zs.getD i 0)) (by simp [List.getD, hi])
    rwa [add_none] at this

set_option maxHeartbeats 400000 in
theorem CopyInts_any (w : World) (v : Value) (zs : List Int) (h : Ints w v zs) (hb : zs.length * 8 ≤ 140737488355328) :
    Calls Try.prog 49 #[v] w fun e w' => ∃ v', e = .returned v' ∧ w'.ownsRow w.heap.size 3 1 v' zs.length (ints zs) ∧ Below w.heap.size w w' ∧ v' ≠ .slice none 0 0 := by
  obtain ⟨A, c, rfl, hr⟩ := h.reads
  obtain ⟨i0, hi0, hz0, hz1, hz2⟩ := info_parts int_info
  have hu := Try.underlying27
  go_enter Try.func49, Try.ntmps49
  go_wp2_with (at_builtin; refine wpList_append_any _ rfl (.tmp 3) (.tmp 4) _ rfl w.heap.size 3 i0 _ 1 8 Try.underlying27 hi0 hz0 hz1 hz2 rfl (by omega) (.slice (some ⟨w.heap.size, 0, none⟩) 0 0) 0 [] rfl (World.ownsRow_made w #[] 0 (Nat.le_refl _) (by simp [maxLen]) rfl) w.heap.size A zs.length c (ints zs) rfl (hr.alloc (Nat.le_refl _) _) (ints_one zs) (by simp only [maxLen]; omega) (by omega) (by simp) ?_; intro v1 w1 hown1 hg1 hat1)
  go_ret
  refine ⟨v1, rfl, by simpa using hown1, ((Below.refl _ _).alloc (Nat.le_refl _) _).grown hg1 (by simp) (by intro k hk; cases hk; exact Nat.le_refl _), ?_⟩
  rintro rfl
  rcases hat1 with hat1 | hat1 <;> cases hat1

/-- v is a list zs of the call's own (in block g), with -77 behind its end. -/
def Lent (w : World) (B : Nat) (v : Value) (zs : List Int) : Prop :=
  ∃ g cap cur, v = .slice (some ⟨g, 0, none⟩) zs.length cap ∧ B ≤ g ∧ w.heap[g]? = some (.cells cur 3 (0, 0)) ∧ zs.length + 1 ≤ cap ∧ cap ≤ maxLen ∧ cur.size = cap ∧ cur.toList.take (zs.length + 1) = ints zs ++ [.int .i64 (-77)]

theorem Lent.reads {w : World} {B : Nat} {v : Value} {zs : List Int} (h : Lent w B v zs) : Ints w v zs := by
  obtain ⟨g, cap, cur, rfl, hb, hg, h1, h2, h3, h4⟩ := h
  refine .inr ⟨g, 0, cap, rfl, by omega, h2, (Array.getElem?_eq_some_iff.1 hg).1, fun i hi => ?_⟩
  have e : cur.toList[i]? = (ints zs ++ [.int .i64 (-77)])[i]? := by rw [← h4, List.getElem?_take, if_pos (by omega)]
  rw [cell_of_row w g _ cur _ _ hg, Nat.zero_add, ← Array.getElem?_toList, e, List.getElem?_append_left (by simpa using hi)]
  simp [List.getD, hi]

theorem Lent.below {w w' : World} {B : Nat} {v : Value} {zs : List Int} (h : Lent w B v zs) (hb : Below w.heap.size w w') : Lent w' B v zs := by
  obtain ⟨g, cap, cur, rfl, hB, hg, h⟩ := h
  exact ⟨g, cap, cur, rfl, hB, (hb.block g (Array.getElem?_eq_some_iff.1 hg).1).trans hg, h⟩

theorem reads_one (w : World) (x : Value) (t : TypeId) : Reads (w.alloc (.cells #[x] t)) (w.heap.size + 1) 1 (some ⟨w.heap.size, 0, none⟩) 1 [x] := by
  refine ⟨rfl, fun _ => ⟨_, rfl, by simp, fun j u hu => ?_⟩⟩
  cases j with
  | zero =>
    cases hu
    rw [add_none, cell_of_row _ _ _ #[x] t (0, 0) (heap_alloc_new w _)]; rfl
  | succ j => simp at hu

/-- What is known of a row of the call's own that has at least one member. -/
theorem own_form {w : World} {B n : Nat} {v : Value} {xs : List Value} (h : w.ownsRow B 3 1 v n xs) (hn : 0 < n) :
    ∃ g cap cur, v = .slice (some ⟨g, 0, none⟩) n cap ∧ B ≤ g ∧ w.heap[g]? = some (.cells cur 3 (0, 0)) ∧ n ≤ cap ∧ cap ≤ maxLen ∧ cur.size = cap ∧ cur.toList.take n = xs := by
  rcases h.2 with ⟨_, h0⟩ | ⟨g, cap, cur, hv, hb, hg, h1, h2, h3, h4⟩
  · omega
  · exact ⟨g, cap, cur, hv, hb, hg, h1, h2, by simpa using h3, by simpa using h4⟩

set_option maxHeartbeats 400000 in
theorem LendInts_any (w : World) (v : Value) (zs : List Int) (h : Ints w v zs) (hb : zs.length * 8 ≤ 140737488351232) :
    Calls Try.prog 26 #[v] w fun e w' => ∃ v', e = .returned v' ∧ Lent w' w.heap.size v' zs ∧ Below w.heap.size w w' := by
  obtain ⟨A, c, rfl, hr⟩ := h.reads
  obtain ⟨i0, hi0, hz0, hz1, hz2⟩ := info_parts int_info
  go_enter Try.func26, Try.ntmps26
  go_wp2_with (first
    | (go_at_call 49; refine (CopyInts_any _ _ zs h (by omega)).mono ?_; rintro e w1 ⟨v1, rfl, hown1, hb1, hne⟩)
    | (at_builtin; refine wpList_append_any _ rfl (.tmp 4) (.tmp 5) _ rfl w.heap.size 3 i0 _ 1 8 Try.underlying27 hi0 hz0 hz1 hz2 rfl (by omega) v1 zs.length (ints zs) rfl (hown1.alloc _) (w1.heap.size + 1) (some ⟨w1.heap.size, 0, none⟩) 1 1 [.int .i64 (-77)] rfl (reads_one _ _ _) (by simp [Value.oneCell']) (by simp only [maxLen]; omega) (by omega) (by have := hb1.size; simp; omega) ?_; intro v2 w2 hown2 hg2 hat2; obtain ⟨g, cap, cur, rfl, hB, hg, hn, hm, hsz, htk⟩ := own_form hown2 (by omega)))
  go_ret
  refine ⟨_, rfl, ⟨g, cap, cur, rfl, hB, hg, hn, hm, hsz, htk⟩, (hb1.alloc hb1.size _).grown hg2 (by have := hb1.size; simp; omega) (fun k hk => (hown1.lt k hk).1)⟩

theorem lent_any (w : World) (v : Value) (zs : List Int) (h : Ints w v zs) (hb : zs.length * 8 ≤ 140737488351232) :
    Calls Try.prog 17 #[v] w fun e w' => ∃ v', e = .returned v' ∧ Lent w' w.heap.size v' zs ∧ Below w.heap.size w w' := by
  have hcon := LendInts_any w v zs h hb
  clear h
  go_enter Try.func17, Try.ntmps17
  go_wp2_with (go_at_call 26; refine hcon.mono ?_; rintro e w1 ⟨v1, rfl, hl, hb1⟩)
  go_ret
  exact ⟨v1, rfl, hl, hb1⟩

/-- What lies behind the end of a list that was lent. -/
theorem Lent.mark {w : World} {B : Nat} {v : Value} {zs : List Int} (h : Lent w B v zs) : ∃ g cap, v = .slice (some ⟨g, 0, none⟩) zs.length cap ∧ zs.length + 1 ≤ cap ∧ cap ≤ maxLen ∧ B ≤ g ∧ g < w.heap.size ∧ w.cell? ⟨g, zs.length, none⟩ = some (.int .i64 (-77)) := by
  obtain ⟨g, cap, cur, rfl, hb, hg, h1, h2, h3, h4⟩ := h
  refine ⟨g, cap, rfl, h1, h2, hb, (Array.getElem?_eq_some_iff.1 hg).1, ?_⟩
  have e : cur.toList[zs.length]? = (ints zs ++ [.int .i64 (-77)])[zs.length]? := by rw [← h4, List.getElem?_take, if_pos (by omega)]
  rw [cell_of_row w g _ cur _ _ hg, ← Array.getElem?_toList, e, List.getElem?_append_right (by simp)]
  simp

set_option maxHeartbeats 400000 in
theorem KeptInts_any (w : World) (B : Nat) (v u : Value) (zs : List Int) (h : Lent w B v zs) (h' : Ints w u zs) : Calls Try.prog 24 #[v, u] w fun e w' => e = .returned (.bool true) ∧ Below w.heap.size w w' := by
  have hcon := SameInts_any w v u zs zs h.reads h'
  rw [decide_eq_true rfl] at hcon
  have hlen := h'.len
  obtain ⟨A, c, rfl, hr⟩ := h'.reads
  obtain ⟨g, cap, rfl, h1, h2, hB, hg, hcell⟩ := h.mark
  clear h h' hr
  unfold maxLen at hlen h2
  go_enter Try.func24, Try.ntmps24
  go_wp2_with (go_at_call 48; refine hcon.mono ?_; rintro e w1 ⟨rfl, hb1⟩; have hcell1 := (hb1.cell (p := ⟨g, zs.length, none⟩) hg).trans hcell)
  go_ret
  exact ⟨rfl, hb1⟩

/-- All cells of block g hold some int; nothing else is said of them. -/
def IntBlk (w : World) (g cap : Nat) : Prop := ∃ cur : Array Value, w.heap[g]? = some (.cells cur 3 (0, 0)) ∧ cur.size = cap

theorem IntBlk.at_ {w : World} {g cap : Nat} (h : IntBlk w g cap) (i : Nat) (hi : i < cap) : ∃ u, w.cell? ⟨g, i, none⟩ = some u := by
  obtain ⟨cur, hg, hs⟩ := h
  exact ⟨_, by rw [cell_of_row w g _ cur _ _ hg, Array.getElem?_eq_getElem (by omega)]⟩
theorem IntBlk.free {w : World} {g cap : Nat} (h : IntBlk w g cap) (i : Nat) : w.frozen? ⟨g, i, none⟩ = false := by
  obtain ⟨cur, hg, hs⟩ := h
  exact Blk.frozen hg i
theorem IntBlk.set_ {w : World} {g cap : Nat} (h : IntBlk w g cap) (i : Nat) (u : Value) : IntBlk (w.setCell ⟨g, i, none⟩ u) g cap := by
  obtain ⟨cur, hg, hs⟩ := h
  exact ⟨_, Blk.set_ hg i u, by simpa using hs⟩
theorem own_blk {w : World} {B n : Nat} {v : Value} {xs : List Value} (h : w.ownsRow B 3 1 v n xs) :
    (v = .slice none 0 0 ∧ n = 0) ∨ ∃ g cap, v = .slice (some ⟨g, 0, none⟩) n cap ∧ B ≤ g ∧ n ≤ cap ∧ cap ≤ maxLen ∧ IntBlk w g cap := by
  rcases h.2 with h | ⟨g, cap, cur, hv, hb, hg, h1, h2, h3, h4⟩
  · exact .inl h
  · exact .inr ⟨g, cap, hv, hb, h1, h2, cur, hg, by simpa using h3⟩

theorem only_set {w wr : World} {g : Nat} (h : w.grownBy wr (some g)) (i : Nat) (u : Value) : w.grownBy (wr.setCell ⟨g, i, none⟩ u) (some g) :=
  ⟨h.os, h.tape, h.output, by simpa [World.setCell] using h.size, fun k hk hne => (Below.heap_setCell _ _ _ _ (by intro e; exact hne (by rw [e]))).trans (h.block k hk hne)⟩

set_option maxHeartbeats 400000 in
theorem SpoilInts_any (w : World) (B n : Nat) (v : Value) (xs : List Value) (m : Int) (h : w.ownsRow B 3 1 v n xs) : Calls Try.prog 23 #[v, .int .i64 m] w fun e w' => e = .returned (.tuple #[]) ∧ w.grownBy w' v.ownBlock := by
  rcases own_blk h with ⟨rfl, rfl⟩ | ⟨g, cap, rfl, hB, h1, h2, hI⟩
  · clear h
    go_enter Try.func23, Try.ntmps23
    go_wp2
    go_loop [4] (fun i => i = .int .i64 0) (fun i => (intOf i).toNat)
    case atStart => exact rfl
    case round =>
      subst hrel
      go_wp2
      go_end0
      exact ⟨rfl, World.grownBy.refl w _⟩
  · clear h
    unfold maxLen at h2
    have HI := Lib.hid hI
    clear hI
    go_enter Try.func23, Try.ntmps23
    go_wp2
    go_loopw [4] (fun i wr => ∃ k : Nat, k ≤ n ∧ i = .int .i64 k ∧ IntBlk wr g cap ∧ w.grownBy wr (some g)) (fun i _ => n - (intOf i).toNat)
    case atStart => exact ⟨0, Nat.zero_le _, rfl, HI.out, World.grownBy.refl w _⟩
    case round =>
      obtain ⟨k, hk, rfl, hib, hbw⟩ := hrel
      have HIB := Lib.hid hib
      clear hib
      by_cases hlt : k < n
      · obtain ⟨u, hu⟩ := HIB.out.at_ k (by omega)
        have hf := HIB.out.free k
        go_wp2
        go_roundw
        case rel => exact ⟨k + 1, by omega, by go_num, HIB.out.set_ _ _, only_set hbw _ _⟩
        case measure => simp [intOf]; omega
      · have : k = n := by omega
        subst this
        by_cases hcap : k < cap
        · obtain ⟨u, hu⟩ := HIB.out.at_ k (by omega)
          have hf := HIB.out.free k
          go_wp2
          go_end0
          exact ⟨rfl, only_set hbw _ _⟩
        · go_wp2
          go_end0
          exact ⟨rfl, hbw⟩
end Go.Proofs.Ytcppmjgglcobcaa
