/- The walk of SimStarts: for whatever circuit and state the statement's Go function answers true, and nothing that was there has turned. -/
import Derived.Test.YtfbnhkndlohalaaSimB
import Derived.Test.YtfbnhkndlohalaaAppF
import Derived.Test.YtfbnhkndlohalaaSimW
import Derived.Test.YtfbnhkndlohalaaSimG
import Derived.Test.YtfbnhkndlohalaaSimQ
import Derived.Test.YtfbnhkndlohalaaLendC
import Derived.Test.YtfbnhkndlohalaaKeptC
import Derived.Test.YtfbnhkndlohalaaArgR
namespace Go.Proofs.Ytfbnhkndlohalaa
open Go.RowKit

theorem own_formO {w : World} {B n : Nat} {v : Value} {xs : List Value} (h : w.ownsRow B 4 1 v n xs) (hn : 0 < n) :
    ∃ g cap cur, v = .slice (some ⟨g, 0, none⟩) n cap ∧ B ≤ g ∧ w.heap[g]? = some (.cells cur 4 (0, 0)) ∧ n ≤ cap ∧ cap ≤ maxLen ∧ cur.size = cap ∧ cur.toList.take n = xs := by
  rcases h.2 with ⟨_, h0⟩ | ⟨g, cap, cur, hv, hb, hg, h1, h2, h3, h4⟩
  · omega
  · exact ⟨g, cap, cur, hv, hb, hg, h1, h2, by simpa using h3, by simpa using h4⟩
theorem bool_infoO : (Try.prog.info? 4).map (fun i => (i.zero, i.size, i.bytes)) = some (some (.bool false), 1, 1) := by kernel_rfl
/-- The first n cells of block g hold truths; nothing else is said of them. -/
def BoolBlk (w : World) (g n cap : Nat) : Prop := ∃ cur : Array Value, w.heap[g]? = some (.cells cur 4 (0, 0)) ∧ cur.size = cap ∧ ∀ i, i < n → ∃ b, cur[i]? = some (.bool b)
theorem BoolBlk.at_ {w : World} {g n cap : Nat} (h : BoolBlk w g n cap) (i : Nat) (hi : i < n) : ∃ b, w.cell? ⟨g, i, none⟩ = some (.bool b) := by
  obtain ⟨cur, hg, _, hb⟩ := h
  obtain ⟨b, hb⟩ := hb i hi
  exact ⟨b, by rw [cell_of_row w g _ cur _ _ hg, hb]⟩
theorem BoolBlk.free {w : World} {g n cap : Nat} (h : BoolBlk w g n cap) (i : Nat) : w.frozen? ⟨g, i, none⟩ = false := by
  obtain ⟨cur, hg, _⟩ := h
  exact Blk.frozen hg i
theorem BoolBlk.set_ {w : World} {g n cap : Nat} (h : BoolBlk w g n cap) (i : Nat) (x : Bool) : BoolBlk (w.setCell ⟨g, i, none⟩ (.bool x)) g n cap := by
  obtain ⟨cur, hg, hs, hb⟩ := h
  refine ⟨_, Blk.set_ hg i _, by simpa using hs, fun k hk => ?_⟩
  obtain ⟨b, hb⟩ := hb k hk
  have hlt := (Array.getElem?_eq_some_iff.1 hb).1
  by_cases e : i = k
  · subst e; exact ⟨x, by simp [hlt]⟩
  · exact ⟨b, by simp [e, hb]⟩
theorem own_blkO {w : World} {B n : Nat} {v : Value} {zs : List Bool} (hz : zs.length = n) (h : w.ownsRow B 4 1 v n (zs.map Value.bool)) :
    (v = .slice none 0 0 ∧ n = 0) ∨ ∃ g cap, v = .slice (some ⟨g, 0, none⟩) n cap ∧ B ≤ g ∧ n ≤ cap ∧ cap ≤ maxLen ∧ BoolBlk w g n cap := by
  rcases h.2 with h | ⟨g, cap, cur, hv, hb, hg, h1, h2, h3, h4⟩
  · exact .inl h
  · refine .inr ⟨g, cap, hv, hb, h1, h2, cur, hg, by simpa using h3, fun i hi => ?_⟩
    have e : cur.toList[i]? = (zs.map Value.bool)[i]? := by
      rw [← h4, List.getElem?_take, if_pos (by omega)]
    rw [← Array.getElem?_toList, e, List.getElem?_map, List.getElem?_eq_getElem (by omega)]
    exact ⟨_, rfl⟩
set_option maxHeartbeats 1000000 in
set_option maxRecDepth 100000 in
theorem SpoilO_any (w : World) (B n : Nat) (v : Value) (zs : List Bool) (hz : zs.length = n) (h : w.ownsRow B 4 1 v n (zs.map Value.bool)) : Calls Try.prog 9 #[v] w fun e w' => e = .returned (.tuple #[]) ∧ w.grownBy w' v.ownBlock := by
  rcases own_blkO hz h with ⟨rfl, rfl⟩ | ⟨g, cap, rfl, hB, h1, h2, hI⟩
  · clear h hz
    go_enter Try.func9, Try.ntmps9
    go_wp2
    go_loop [2] (fun i => i = .int .i64 0) (fun i => (intOf i).toNat)
    case atStart => exact rfl
    case round =>
      subst hrel
      go_wp2
      go_end0
      exact ⟨rfl, World.grownBy.refl w _⟩
  · clear h hz
    unfold maxLen at h2
    have HI := Lib.hid hI
    clear hI
    go_enter Try.func9, Try.ntmps9
    go_wp2
    go_loopw [2] (fun i wr => ∃ k : Nat, k ≤ n ∧ i = .int .i64 k ∧ BoolBlk wr g n cap ∧ w.grownBy wr (some g)) (fun i _ => n - (intOf i).toNat)
    case atStart => exact ⟨0, Nat.zero_le _, rfl, HI.out, World.grownBy.refl w _⟩
    case round =>
      obtain ⟨k, hk, rfl, hib, hbw⟩ := hrel
      have HIB := Lib.hid hib
      clear hib
      by_cases hlt : k < n
      · obtain ⟨u, hu⟩ := HIB.out.at_ k hlt
        have hf := HIB.out.free k
        go_wp2
        go_roundw
        case rel => exact ⟨k + 1, by omega, by go_num, HIB.out.set_ _ _, only_setL hbw _ _⟩
        case measure => simp [intOf]; omega
      · have : k = n := by omega
        subst this
        go_wp2
        go_end0
        exact ⟨rfl, hbw⟩
end Go.Proofs.Ytfbnhkndlohalaa

namespace Go.Proofs.Ytfbnhkndlohalaa
open Go.RowKit

end Go.Proofs.Ytfbnhkndlohalaa
