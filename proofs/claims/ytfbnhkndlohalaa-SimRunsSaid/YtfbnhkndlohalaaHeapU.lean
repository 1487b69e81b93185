/- The contract of heap's up. -/
import Derived.Test.YtfbnhkndlohalaaOrdP
import Derived.BigRegion
import Derived.OwnWalk
namespace Go.Proofs.Ytfbnhkndlohalaa
open Go.RowKit

/-- A block that holds a row of numbers: the row's own reading, for stores and loads. -/
theorem own_cells {w : World} {B : Nat} {v : Value} {xs : List Int} (h : w.ownsRow B 3 1 v xs.length (xs.map (Value.int .i64))) (hn : 0 < xs.length) :
    ∃ g cap, v = .slice (some ⟨g, 0, none⟩) xs.length cap ∧ B ≤ g ∧ xs.length ≤ cap ∧ cap ≤ maxLen ∧ g < w.heap.size ∧ (∀ k, k < xs.length → w.cell? ⟨g, k, none⟩ = some (.int .i64 (xs.getD k 0))) ∧ (∀ k, w.frozen? ⟨g, k, none⟩ = false) ∧
      (∀ k, k < xs.length → ∀ x : Int, (w.setCell ⟨g, k, none⟩ (.int .i64 x)).ownsRow B 3 1 v xs.length ((xs.set k x).map (Value.int .i64))) := by
  obtain ⟨g, cap, cur, rfl, hB, hb, h1, h2, h3, h4⟩ := own_some h hn
  refine ⟨g, cap, rfl, hB, h1, h2, hb.lt, fun k hk => ?_, fun k => hb.frozen k, fun k hk x => ?_⟩
  · rw [hb.cell]
    have : (cur.toList.take xs.length)[k]? = (xs.map (Value.int .i64))[k]? := by rw [h4]
    rw [List.getElem?_take, if_pos hk, Array.getElem?_toList, List.getElem?_map, getD_some hk (d := 0)] at this
    simpa using this
  · refine ⟨by simp, .inr ⟨g, cap, cur.setIfInBounds k (.int .i64 x), rfl, hB, Blk.set_ hb k _, h1, h2, by simpa using h3, ?_⟩⟩
    rw [Array.toList_setIfInBounds, List.map_set, ← h4]
    simp [List.take_set]

set_option maxHeartbeats 1000000 in
set_option maxRecDepth 100000 in
theorem Len_any (w : World) (A : Option Addr) (n c : Nat) :
    Calls Try.prog 58 #[.slice A n c] w fun e w' => e = .returned (.int .i64 n) ∧ w' = w := by
  go_enter Try.func58, Try.ntmps58
  go_wp2
  go_ret
  exact ⟨rfl, rfl⟩

set_option maxHeartbeats 1000000 in
set_option maxRecDepth 100000 in
theorem Less_any (w : World) (g n c i j : Nat) (x y : Int) (hi : (i : Int) < (n : Int)) (hj : (j : Int) < (n : Int)) (_hn : n ≤ 100000) (hx : w.cell? ⟨g, i, none⟩ = some (.int .i64 x)) (hy : w.cell? ⟨g, j, none⟩ = some (.int .i64 y)) :
    Calls Try.prog 106 #[.slice (some ⟨g, 0, none⟩) n c, .int .i64 i, .int .i64 j] w fun e w' => e = .returned (.bool (decide (x < y))) ∧ ∃ k, w' = w.drewN k := by
  go_enter Try.func106, Try.ntmps106
  go_wp2
  go_quiet (fail)
  go_wp2
  go_ret
  exact ⟨rfl, _, rfl⟩

set_option maxHeartbeats 1000000 in
set_option maxRecDepth 100000 in
theorem Swap_any (w : World) (g n c i j : Nat) (x y : Int) (hi : (i : Int) < (n : Int)) (hj : (j : Int) < (n : Int)) (_hn : n ≤ 100000) (hx : w.cell? ⟨g, i, none⟩ = some (.int .i64 x)) (hy : w.cell? ⟨g, j, none⟩ = some (.int .i64 y)) (fi : w.frozen? ⟨g, i, none⟩ = false) (fj : w.frozen? ⟨g, j, none⟩ = false) :
    Calls Try.prog 110 #[.slice (some ⟨g, 0, none⟩) n c, .int .i64 i, .int .i64 j] w fun e w' => e = .returned (.tuple #[]) ∧ ∃ k, w' = ((w.setCell ⟨g, i, none⟩ (.int .i64 y)).setCell ⟨g, j, none⟩ (.int .i64 x)).drewN k := by
  obtain ⟨z, hz⟩ : ∃ z, (w.setCell ⟨g, i, none⟩ (.int .i64 y)).cell? ⟨g, j, none⟩ = some z := by
    by_cases e : i = j
    · subst e
      exact ⟨_, World.cell?_setCell_same w ⟨g, i, none⟩ (.int .i64 y) hx⟩
    · exact ⟨_, (World.cell?_setCell_other w _ _ _ (by intro h; injection h; omega)).trans hy⟩
  have fz : (w.setCell ⟨g, i, none⟩ (.int .i64 y)).frozen? ⟨g, j, none⟩ = false := by rw [World.frozen?_setCell]; exact fj
  go_enter Try.func110, Try.ntmps110
  go_wp2
  go_region
  go_wp2
  go_end0
  exact ⟨rfl, _, rfl⟩
end Go.Proofs.Ytfbnhkndlohalaa

namespace Go.Proofs.Ytfbnhkndlohalaa
open Go.RowKit

/-- A heap in memory: its block holds the row that reads so. -/
structure HpB (w : World) (B b : Nat) (v : Value) (xs : List Int) : Prop where
  box : Blk w b 95 #[v]
  row : w.ownsRow B 3 1 v xs.length (xs.map (Value.int .i64))
  lt : b < B
theorem HpB.drewN {w : World} {B b : Nat} {v : Value} {xs : List Int} (h : HpB w B b v xs) (k : Nat) : HpB (w.drewN k) B b v xs := ⟨h.box, own_below h.row (below_drewN (Below.refl _ _) k), h.lt⟩
theorem grown_trans {w w1 w2 : World} {r : Option Nat} (h : w.grownBy w1 r) (h2 : w1.grownBy w2 r) : w.grownBy w2 r :=
  ⟨h2.os.trans h.os, h2.tape.trans h.tape, h2.output.trans h.output, Nat.le_trans h.size h2.size, fun k hk hr => (h2.block k (Nat.lt_of_lt_of_le hk h.size) hr).trans (h.block k hk hr)⟩
theorem grown_drewN {w w1 : World} {r : Option Nat} (h : w.grownBy w1 r) (k : Nat) : w.grownBy (w1.drewN k) r := ⟨h.os, h.tape, h.output, h.size, h.block⟩
theorem grown_set {w w1 : World} {g : Nat} (h : w.grownBy w1 (some g)) (i : Nat) (u : Value) : w.grownBy (w1.setCell ⟨g, i, none⟩ u) (some g) :=
  grown_trans h ⟨rfl, rfl, rfl, by simp [World.setCell], fun k _ hr => Below.heap_setCell _ _ _ _ (by intro e; exact hr (by rw [e]))⟩
@[go_sem] theorem nil_ahead_Less (a : Addr) (w : World) (f : Nat) : (nilAhead (f + 1) 92 (.pointer (some a)) "Less").run Try.prog w = .ok (some false) w := by kernel_rfl
@[go_sem] theorem nil_ahead_Swap (a : Addr) (w : World) (f : Nat) : (nilAhead (f + 1) 92 (.pointer (some a)) "Swap").run Try.prog w = .ok (some false) w := by kernel_rfl
@[go_sem] theorem nil_ahead_Len (a : Addr) (w : World) (f : Nat) : (nilAhead (f + 1) 92 (.pointer (some a)) "Len").run Try.prog w = .ok (some false) w := by kernel_rfl
@[go_sem] theorem nil_ahead_Push (a : Addr) (w : World) (f : Nat) : (nilAhead (f + 1) 92 (.pointer (some a)) "Push").run Try.prog w = .ok (some false) w := by kernel_rfl
@[go_sem] theorem nil_ahead_Pop (a : Addr) (w : World) (f : Nat) : (nilAhead (f + 1) 92 (.pointer (some a)) "Pop").run Try.prog w = .ok (some false) w := by kernel_rfl
theorem method_Less (w : World) (b f : Nat) (A : Option Addr) (n c : Nat) (h : w.cell? ⟨b, 0, none⟩ = some (.slice A n c)) : (method (f + 1) 92 (.pointer (some ⟨b, 0, none⟩)) "Less").run Try.prog w = .ok (106, .slice A n c) w := by
  have e : (method (f + 1) 92 (.pointer (some ⟨b, 0, none⟩)) "Less").run Try.prog w = (load ⟨b, 0, none⟩ >>= fun v => pure (106, v)).run Try.prog w := by kernel_rfl
  rw [e, Sem.run_bind, run_load, h]; rfl
theorem method_Swap (w : World) (b f : Nat) (A : Option Addr) (n c : Nat) (h : w.cell? ⟨b, 0, none⟩ = some (.slice A n c)) : (method (f + 1) 92 (.pointer (some ⟨b, 0, none⟩)) "Swap").run Try.prog w = .ok (110, .slice A n c) w := by
  have e : (method (f + 1) 92 (.pointer (some ⟨b, 0, none⟩)) "Swap").run Try.prog w = (load ⟨b, 0, none⟩ >>= fun v => pure (110, v)).run Try.prog w := by kernel_rfl
  rw [e, Sem.run_bind, run_load, h]; rfl
theorem method_Len (w : World) (b f : Nat) (A : Option Addr) (n c : Nat) (h : w.cell? ⟨b, 0, none⟩ = some (.slice A n c)) : (method (f + 1) 92 (.pointer (some ⟨b, 0, none⟩)) "Len").run Try.prog w = .ok (58, .slice A n c) w := by
  have e : (method (f + 1) 92 (.pointer (some ⟨b, 0, none⟩)) "Len").run Try.prog w = (load ⟨b, 0, none⟩ >>= fun v => pure (58, v)).run Try.prog w := by kernel_rfl
  rw [e, Sem.run_bind, run_load, h]; rfl
theorem method_Push (w : World) (a : Addr) (f : Nat) : (method (f + 1) 92 (.pointer (some a)) "Push").run Try.prog w = .ok (108, .pointer (some a)) w := by kernel_rfl
theorem method_Pop (w : World) (a : Addr) (f : Nat) : (method (f + 1) 92 (.pointer (some a)) "Pop").run Try.prog w = .ok (107, .pointer (some a)) w := by kernel_rfl
theorem HpB.set_ {w : World} {B b g m cap : Nat} {xs : List Int} (h : HpB w B b (.slice (some ⟨g, 0, none⟩) m cap) xs) {i : Nat} (hi : i < xs.length) (x : Int) : HpB (w.setCell ⟨g, i, none⟩ (.int .i64 x)) B b (.slice (some ⟨g, 0, none⟩) m cap) (xs.set i x) := by
  obtain ⟨g', cap', hv, hBg, _, _, _, _, _, hs⟩ := own_cells h.row (by omega)
  injection hv with h1 h2 h3
  injection h1 with h1
  injection h1 with h1
  subst h1 h3
  have := hs i hi x
  exact ⟨h.box.far (by have := h.lt; simp; omega) _, by rw [List.length_set]; exact this, h.lt⟩
theorem HpB.swap {w : World} {B b g m cap : Nat} {xs : List Int} (h : HpB w B b (.slice (some ⟨g, 0, none⟩) m cap) xs) {i j : Nat} (hi : i < xs.length) (hj : j < xs.length) : HpB ((w.setCell ⟨g, i, none⟩ (.int .i64 (xs.getD j 0))).setCell ⟨g, j, none⟩ (.int .i64 (xs.getD i 0))) B b (.slice (some ⟨g, 0, none⟩) m cap) (swapL xs i j) :=
  (h.set_ hi _).set_ (by rw [List.length_set]; exact hj) _
set_option maxHeartbeats 400000 in
set_option maxRecDepth 100000 in
theorem up_any (w : World) (B b : Nat) (v : Value) (xs : List Int) (j : Nat) (h : HpB w B b v xs) (hj : j < xs.length) (hn : xs.length ≤ 100000) :
    Calls Try.prog 77 #[.iface 92 (.pointer (some ⟨b, 0, none⟩)), .int .i64 j] w fun e w' => e = .returned (.tuple #[]) ∧ HpB w' B b v (upF (j + 1) xs j) ∧ w.grownBy w' v.ownBlock := by
  have H := Lib.hid h
  generalize hm : xs.length = m at *
  have HM := Lib.hid hm
  clear h hm
  go_enter Try.func77, Try.ntmps77
  go_wp2
  go_loopw [1] (fun i wr => ∃ (k f : Nat) (ys : List Int), i = .int .i64 k ∧ k < m ∧ k < f ∧ ys.length = m ∧ upF f ys k = upF (j + 1) xs j ∧ HpB wr B b v ys ∧ w.grownBy wr v.ownBlock) (fun i _ => (intOf i).toNat)
  case atStart => exact ⟨j, j + 1, xs, rfl, hj, by omega, HM.out, rfl, H.out, World.grownBy.refl _ _⟩
  case round =>
    obtain ⟨k, f, ys, rfl, hk, hkf, hl, he, hb, hg⟩ := hrel
    have HB := Lib.hid hb
    have HG := Lib.hid hg
    have HE := Lib.hid he
    have c0 := hb.box.cell 0
    simp only [List.getElem?_toArray, List.getElem?_cons_zero] at c0
    obtain ⟨g, cap, hv, hBg, h1, h2, h3, hc, hf, hs⟩ := own_cells hb.row (by omega)
    rw [hl] at hv h1 hc
    have HLN := Lib.hid hl
    by_cases hk0 : k = 0
    · subst hk0
      clear hb hg he hc hs hl
      go_wp2
      go_end0
      have he := HE.out
      rw [show upF f ys 0 = ys by cases f <;> simp [upF]] at he
      exact ⟨rfl, by rw [← he]; exact HB.out, HG.out⟩
    · obtain ⟨i, hi, hik⟩ : ∃ i : Nat, ((k : Int) - 1) / 2 = (i : Int) ∧ i = (k - 1) / 2 := ⟨(k - 1) / 2, by omega, rfl⟩
      have hil : i < m := by omega
      have hne : i ≠ k := by omega
      have hq : (((k : Int) - 1) / 2 == (k : Int)) = false := by simp; omega
      subst hv
      have m0 : (method 252 92 (.pointer (some ⟨b, 0, none⟩)) "Less").run Try.prog wr = .ok (106, .slice (some ⟨g, 0, none⟩) m cap) wr := method_Less wr b 251 _ _ _ c0
      have ck := hc k (by omega)
      have ci := hc i (by omega)
      have hsk := hs k (by omega)
      have hup : upF f ys k = if ys.getD k 0 < ys.getD i 0 then upF (f - 1) (swapL ys i k) i else ys := by
        cases f with
        | zero => omega
        | succ f => rw [upF, if_neg hk0, ← hik]; rfl
      have hsw : swapL ys i k = (ys.set i (ys.getD k 0)).set k (ys.getD i 0) := rfl
      obtain ⟨x, hx⟩ : ∃ x, ys.getD k 0 = x := ⟨_, rfl⟩
      obtain ⟨y, hy⟩ : ∃ y, ys.getD i 0 = y := ⟨_, rfl⟩
      rw [hx] at ck hup hsw
      rw [hy] at ci hup hsw
      have hless := Less_any wr g m cap k i x y (by omega) (by omega) (by omega) ck ci
      rw [← hi] at hless
      have HUP := Lib.hid hup
      have HSW := Lib.hid hsw
      have HI := Lib.hid hi
      have HIK := Lib.hid hik
      have HX := Lib.hid hx
      have HY := Lib.hid hy
      by_cases hlt : x < y
      · have hs1 := hs i (by omega) x
        have m1 : ∀ kd, (method 252 92 (.pointer (some ⟨b, 0, none⟩)) "Swap").run Try.prog (wr.drewN kd) = .ok (110, .slice (some ⟨g, 0, none⟩) m cap) (wr.drewN kd) := fun kd => method_Swap (wr.drewN kd) b 251 _ _ _ c0
        have hswap : ∀ kd, Calls Try.prog 110 #[.slice (some ⟨g, 0, none⟩) m cap, .int .i64 (((k : Int) - 1) / 2), .int .i64 k] (wr.drewN kd) fun e w' => e = .returned (.tuple #[]) ∧ ∃ k', w' = (((wr.drewN kd).setCell ⟨g, i, none⟩ (.int .i64 x)).setCell ⟨g, k, none⟩ (.int .i64 y)).drewN k' := fun kd => by
          rw [hi]
          exact Swap_any (wr.drewN kd) g m cap i k y x (by omega) (by omega) (by omega) ci ck (hf i) (hf k)
        rw [decide_eq_true hlt] at hless
        have HL := Lib.hid hless
        have HS := Lib.hid hswap
        have HLT := Lib.hid hlt
        clear hb hg he hc hs hless hl hik hi hswap hup hsw hx hy hlt hs1 hsk ck ci hf
        go_wp2_with (first
          | (go_at_call 106; refine HL.out.mono ?_; rintro e w5 ⟨rfl, kd, rfl⟩)
          | (go_at_call 110; refine (HS.out _).mono ?_; rintro e w6 ⟨rfl, ke, rfl⟩))
        have hik := HIK.out
        refine ⟨⟨i, f - 1, swapL ys i k, by rw [HI.out], hil, by omega, by rw [swap_len]; exact HLN.out, by rw [← HE.out, HUP.out, if_pos HLT.out], ?_, ?_⟩, by rw [HI.out]; simp [intOf]; omega⟩
        · have := (HB.out.drewN kd).swap (i := i) (j := k) (by rw [HLN.out]; exact hil) (by rw [HLN.out]; exact hk)
          rw [HX.out, HY.out] at this
          exact this.drewN ke
        · exact grown_drewN (grown_set (grown_set (grown_drewN HG.out kd) i _) k _) ke
      · rw [decide_eq_false hlt] at hless
        have HL := Lib.hid hless
        have HLT := Lib.hid hlt
        clear hb hg he hc hs hless hl hik hi hup hsw hx hy hlt hsk ck ci hf
        go_wp2_with (go_at_call 106; refine HL.out.mono ?_; rintro e w5 ⟨rfl, kd, rfl⟩)
        go_end0
        refine ⟨rfl, ?_, grown_drewN HG.out kd⟩
        have he := HE.out
        rw [HUP.out, if_neg (Int.not_lt.2 HLT.out)] at he
        rw [← he]
        exact HB.out.drewN kd
end Go.Proofs.Ytfbnhkndlohalaa
