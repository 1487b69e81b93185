/- An append onto an empty list that was just written down: new memory, nothing that was there turns; lists of lists, copied. -/
import Derived.Test.YtbeaicmjohlboaaDoorCopyR
import Derived.Test.YtbeaicmjohlboaaDoorCopy
import Derived.Test.YtbeaicmjohlboaaDoorSame3
namespace Go.Proofs.YtbeaicmjohlboaaDoor
open Go.RowKit

theorem int_infoL : (Tryd.prog.info? 3).map (fun i => (i.zero, i.size, i.bytes)) = some (some (.int .i64 0), 1, 8) := by kernel_rfl

abbrev ints (zs : List Int) : List Value := zs.map (Value.int .i64)

abbrev Ints (w : World) (v : Value) (zs : List Int) : Prop := RowE 1 encI w v zs
theorem Ints.reads {w : World} {v : Value} {zs : List Int} (h : Ints w v zs) : ∃ A c, v = .slice A zs.length c ∧ Reads w w.heap.size 1 A zs.length (ints zs) := by
  obtain ⟨A, c, e, hr⟩ := RowE.reads lenI (by omega) h
  rw [flat_ints] at hr
  exact ⟨A, c, e, hr⟩
/-- v is a list zs of the call's own (in block g), with -77 behind its end. -/
def Lent (w : World) (B : Nat) (v : Value) (zs : List Int) : Prop :=
  ∃ g cap cur, v = .slice (some ⟨g, 0, none⟩) zs.length cap ∧ B ≤ g ∧ w.heap[g]? = some (.cells cur 3 (0, 0)) ∧ zs.length + 1 ≤ cap ∧ cap ≤ maxLen ∧ cur.size = cap ∧ cur.toList.take (zs.length + 1) = ints zs ++ [.int .i64 (-77)]

theorem Lent.reads {w : World} {B : Nat} {v : Value} {zs : List Int} (h : Lent w B v zs) : Ints w v zs := by
  obtain ⟨g, cap, cur, rfl, hb, hg, h1, h2, h3, h4⟩ := h
  refine ⟨_, cap, rfl, by omega, h2, fun i z hz => ⟨g, 0, rfl, (Array.getElem?_eq_some_iff.1 hg).1, fun j u hu => ?_⟩⟩
  have hi : i < zs.length := (List.getElem?_eq_some_iff.1 hz).1
  have hj : j = 0 := by have := (List.getElem?_eq_some_iff.1 hu).1; simp at this; exact this
  subst hj
  have e : cur.toList[i]? = (ints zs ++ [.int .i64 (-77)])[i]? := by rw [← h4, List.getElem?_take, if_pos (by omega)]
  rw [Nat.zero_add, Nat.mul_one, Nat.add_zero, cell_of_row w g _ cur _ _ hg, ← Array.getElem?_toList, e, List.getElem?_append_left (by simpa using hi), ← hu]
  simp [hz]
theorem Lent.below {w w' : World} {B : Nat} {v : Value} {zs : List Int} (h : Lent w B v zs) (hb : Below w.heap.size w w') : Lent w' B v zs := by
  obtain ⟨g, cap, cur, rfl, hB, hg, h⟩ := h
  exact ⟨g, cap, cur, rfl, hB, (hb.block g (Array.getElem?_eq_some_iff.1 hg).1).trans hg, h⟩

/-- What is known of a row of the call's own that has at least one member. -/
theorem own_form {w : World} {B n : Nat} {v : Value} {xs : List Value} (h : w.ownsRow B 3 1 v n xs) (hn : 0 < n) :
    ∃ g cap cur, v = .slice (some ⟨g, 0, none⟩) n cap ∧ B ≤ g ∧ w.heap[g]? = some (.cells cur 3 (0, 0)) ∧ n ≤ cap ∧ cap ≤ maxLen ∧ cur.size = cap ∧ cur.toList.take n = xs := by
  rcases h.2 with ⟨_, h0⟩ | ⟨g, cap, cur, hv, hb, hg, h1, h2, h3, h4⟩
  · omega
  · exact ⟨g, cap, cur, hv, hb, hg, h1, h2, by simpa using h3, by simpa using h4⟩

set_option maxHeartbeats 1000000 in
set_option maxRecDepth 100000 in
theorem LendInts_any (w : World) (v : Value) (zs : List Int) (h : Ints w v zs) (hb : zs.length * 8 ≤ 140737488351232) :
    Calls Tryd.prog 10 #[v] w fun e w' => ∃ v', e = .returned v' ∧ Lent w' w.heap.size v' zs ∧ Below w.heap.size w w' := by
  obtain ⟨A, c, rfl, hr⟩ := h.reads
  obtain ⟨i0, hi0, hz0, hz1, hz2⟩ := info_parts int_infoL
  go_enter Tryd.func10, Tryd.ntmps10
  go_wp2_with (first
    | (go_at_call 33; refine (CopyInts_any _ _ zs h (by omega)).mono ?_; rintro e w1 ⟨v1, rfl, hown1, hb1⟩; rw [flat_ints] at hown1)
    | (at_builtin; refine wpList_append_any _ rfl (.tmp 4) (.tmp 5) _ rfl w.heap.size 3 i0 _ 1 8 Tryd.underlying22 hi0 hz0 hz1 hz2 rfl (by omega) v1 zs.length (ints zs) rfl (hown1.alloc _) (w1.heap.size + 1) (some ⟨w1.heap.size, 0, none⟩) 1 1 [.int .i64 (-77)] rfl (reads_one _ _ _) (by simp [Value.oneCell']) (by simp only [maxLen]; omega) (by omega) (by have := hb1.size; simp; omega) ?_; intro v2 w2 hown2 hg2 hat2; obtain ⟨g, cap, cur, rfl, hB, hg, hn, hm, hsz, htk⟩ := own_form hown2 (by omega)))
  go_ret
  refine ⟨_, rfl, ⟨g, cap, cur, rfl, hB, hg, hn, hm, hsz, htk⟩, (hb1.alloc hb1.size _).grown hg2 (by have := hb1.size; simp; omega) (fun k hk => (hown1.lt k hk).1)⟩

/-- What lies behind the end of a list that was lent. -/
theorem Lent.mark {w : World} {B : Nat} {v : Value} {zs : List Int} (h : Lent w B v zs) : ∃ g cap, v = .slice (some ⟨g, 0, none⟩) zs.length cap ∧ zs.length + 1 ≤ cap ∧ cap ≤ maxLen ∧ B ≤ g ∧ g < w.heap.size ∧ w.cell? ⟨g, zs.length, none⟩ = some (.int .i64 (-77)) := by
  obtain ⟨g, cap, cur, rfl, hb, hg, h1, h2, h3, h4⟩ := h
  refine ⟨g, cap, rfl, h1, h2, hb, (Array.getElem?_eq_some_iff.1 hg).1, ?_⟩
  have e : cur.toList[zs.length]? = (ints zs ++ [.int .i64 (-77)])[zs.length]? := by rw [← h4, List.getElem?_take, if_pos (by omega)]
  rw [cell_of_row w g _ cur _ _ hg, ← Array.getElem?_toList, e, List.getElem?_append_right (by simp)]
  simp

set_option maxHeartbeats 1000000 in
set_option maxRecDepth 100000 in
theorem KeptInts_any (w : World) (B : Nat) (v u : Value) (zs : List Int) (h : Lent w B v zs) (h' : Ints w u zs) : Calls Tryd.prog 18 #[v, u] w fun e w' => e = .returned (.bool true) ∧ Below w.heap.size w w' := by
  have hcon := SameInts_any w v u zs zs h.reads h'
  rw [decide_eq_true rfl] at hcon
  have hlen := h'.len
  obtain ⟨A, c, rfl, hr⟩ := h'.reads
  obtain ⟨g, cap, rfl, h1, h2, hB, hg, hcell⟩ := h.mark
  clear h h' hr
  unfold maxLen at hlen h2
  go_enter Tryd.func18, Tryd.ntmps18
  go_wp2_with (go_at_call 15; refine hcon.mono ?_; rintro e w1 ⟨rfl, hb1⟩; have hcell1 := (hb1.cell (p := ⟨g, zs.length, none⟩) hg).trans hcell)
  go_ret
  exact ⟨rfl, hb1⟩

/-- All cells of block g hold some int; nothing else is said of them. -/
def IntBlk (w : World) (g cap : Nat) : Prop := ∃ cur : Array Value, w.heap[g]? = some (.cells cur 3 (0, 0)) ∧ cur.size = cap

theorem IntBlk.at_ {w : World} {g cap : Nat} (h : IntBlk w g cap) (i : Nat) (hi : i < cap) : ∃ u, w.cell? ⟨g, i, none⟩ = some u := by
  obtain ⟨cur, hg, hs⟩ := h
  exact ⟨_, by rw [cell_of_row w g _ cur _ _ hg, Array.getElem?_eq_getElem (by omega)]⟩
theorem IntBlk.free {w : World} {g cap : Nat} (h : IntBlk w g cap) (i : Nat) : w.frozen? ⟨g, i, none⟩ = false := by
  obtain ⟨cur, hg, hs⟩ := h
  exact Blk.frozen hg i
theorem IntBlk.set_ {w : World} {g cap : Nat} (h : IntBlk w g cap) (i : Nat) (u : Value) : IntBlk (w.setCell ⟨g, i, none⟩ u) g cap := by
  obtain ⟨cur, hg, hs⟩ := h
  exact ⟨_, Blk.set_ hg i u, by simpa using hs⟩
theorem own_blk {w : World} {B n : Nat} {v : Value} {xs : List Value} (h : w.ownsRow B 3 1 v n xs) :
    (v = .slice none 0 0 ∧ n = 0) ∨ ∃ g cap, v = .slice (some ⟨g, 0, none⟩) n cap ∧ B ≤ g ∧ n ≤ cap ∧ cap ≤ maxLen ∧ IntBlk w g cap := by
  rcases h.2 with h | ⟨g, cap, cur, hv, hb, hg, h1, h2, h3, h4⟩
  · exact .inl h
  · exact .inr ⟨g, cap, hv, hb, h1, h2, cur, hg, by simpa using h3⟩

theorem only_setL {w wr : World} {g : Nat} (h : w.grownBy wr (some g)) (i : Nat) (u : Value) : w.grownBy (wr.setCell ⟨g, i, none⟩ u) (some g) :=
  ⟨h.os, h.tape, h.output, by simpa [World.setCell] using h.size, fun k hk hne => (Below.heap_setCell _ _ _ _ (by intro e; exact hne (by rw [e]))).trans (h.block k hk hne)⟩
set_option maxHeartbeats 1000000 in
set_option maxRecDepth 100000 in
theorem SpoilInts_any (w : World) (B n : Nat) (v : Value) (xs : List Value) (m : Int) (h : w.ownsRow B 3 1 v n xs) : Calls Tryd.prog 16 #[v, .int .i64 m] w fun e w' => e = .returned (.tuple #[]) ∧ w.grownBy w' v.ownBlock := by
  rcases own_blk h with ⟨rfl, rfl⟩ | ⟨g, cap, rfl, hB, h1, h2, hI⟩
  · clear h
    go_enter Tryd.func16, Tryd.ntmps16
    go_wp2
    go_loop [4] (fun i => i = .int .i64 0) (fun i => (intOf i).toNat)
    case atStart => exact rfl
    case round =>
      subst hrel
      go_wp2
      go_end0
      exact ⟨rfl, World.grownBy.refl w _⟩
  · clear h
    unfold maxLen at h2
    have HI := Lib.hid hI
    clear hI
    go_enter Tryd.func16, Tryd.ntmps16
    go_wp2
    go_loopw [4] (fun i wr => ∃ k : Nat, k ≤ n ∧ i = .int .i64 k ∧ IntBlk wr g cap ∧ w.grownBy wr (some g)) (fun i _ => n - (intOf i).toNat)
    case atStart => exact ⟨0, Nat.zero_le _, rfl, HI.out, World.grownBy.refl w _⟩
    case round =>
      obtain ⟨k, hk, rfl, hib, hbw⟩ := hrel
      have HIB := Lib.hid hib
      clear hib
      by_cases hlt : k < n
      · obtain ⟨u, hu⟩ := HIB.out.at_ k (by omega)
        have hf := HIB.out.free k
        go_wp2
        go_roundw
        case rel => exact ⟨k + 1, by omega, by go_num, HIB.out.set_ _ _, only_setL hbw _ _⟩
        case measure => simp [intOf]; omega
      · have : k = n := by omega
        subst this
        by_cases hcap : k < cap
        · obtain ⟨u, hu⟩ := HIB.out.at_ k (by omega)
          have hf := HIB.out.free k
          go_wp2
          go_end0
          exact ⟨rfl, only_setL hbw _ _⟩
        · go_wp2
          go_end0
          exact ⟨rfl, hbw⟩
end Go.Proofs.YtbeaicmjohlboaaDoor

namespace Go.Proofs.YtbeaicmjohlboaaDoor
open Go.RowKit

/-- A list of lists that a call has made: us are the values of its lists. -/
structure JRow (w : World) (B : Nat) (v : Value) (us : List Value) (zss : List (List Int)) : Prop where
  ul : us.length = zss.length
  own : w.ownsRow B 22 1 v us.length us
  each : ∀ (i : Nat) (u : Value) (zs : List Int), us[i]? = some u → zss[i]? = some zs → w.ownsRow B 3 1 u zs.length (zs.flatMap encI)
theorem JRow.below {w w' : World} {B : Nat} {v : Value} {us : List Value} {zss : List (List Int)} (h : JRow w B v us zss) (hb : Below w.heap.size w w') : JRow w' B v us zss :=
  ⟨h.ul, own_below h.own hb, fun i u zs hu hz => own_below (h.each i u zs hu hz) hb⟩
theorem JRow.base {w : World} {B B' : Nat} {v : Value} {us : List Value} {zss : List (List Int)} (h : JRow w B v us zss) (hB : B' ≤ B) : JRow w B' v us zss :=
  ⟨h.ul, own_base h.own hB, fun i u zs hu hz => own_base (h.each i u zs hu hz) hB⟩
theorem JRow.snoc {w w1 w2 : World} {B : Nat} {v v2 u : Value} {us : List Value} {zss : List (List Int)} {zs : List Int} (h : JRow w B v us (zss.take us.length)) (hz : zss[us.length]? = some zs) (hb : Below w.heap.size w w1) (hBw : B ≤ w.heap.size)
    (hu : w1.ownsRow w.heap.size 3 1 u zs.length (zs.flatMap encI)) (hg : w1.grownBy w2 v.ownBlock) (ho : w2.ownsRow B 22 1 v2 (us.length + 1) (us ++ [u])) : JRow w2 B v2 (us ++ [u]) (zss.take (us.length + 1)) := by
  have hlt : us.length < zss.length := (List.getElem?_eq_some_iff.1 hz).1
  have hown1 := own_below h.own hb
  have keep : ∀ {u' : Value} {n : Nat} {xs : List Value}, w1.ownsRow B 3 1 u' n xs → w2.ownsRow B 3 1 u' n xs := fun hh =>
    own_of_block hh fun k hk => hg.block k (hh.lt k hk).2 (fun e => by
      rcases hown1.2 with ⟨hv, _⟩ | ⟨g, cap, cur, hv, _, hgg, _⟩
      · rw [hv] at e; cases e
      · rw [hv] at e
        have e2 : k = g := by simpa [Value.ownBlock] using e
        exact own_blk_ne hh hgg (by decide) (by rw [hk, e2]))
  refine ⟨by simp; omega, by simpa using ho, fun i u' zs' hu' hz' => ?_⟩
  by_cases hi : i < us.length
  · rw [List.getElem?_append_left hi] at hu'
    rw [List.getElem?_take, if_pos (by omega)] at hz'
    exact keep (own_below (h.each i u' zs' hu' (by rw [List.getElem?_take, if_pos hi]; exact hz')) hb)
  · have : i < (us ++ [u]).length := (List.getElem?_eq_some_iff.1 hu').1
    have hi2 : i = us.length := by simp at this; omega
    subst hi2
    rw [List.getElem?_take, if_pos (by omega), hz] at hz'
    simp at hu' hz'
    subst hu' hz'
    exact keep (own_base hu hBw)
end Go.Proofs.YtbeaicmjohlboaaDoor
