/- The contracts of the table of defined variables: a new one, what is defined, what is used. -/
import Derived.Test.YtdodhbfplglbkaaCirc
import Derived.Laws.MakeOwn
namespace Go.Proofs.Ytdodhbfplglbkaa
open Go.RowKit

theorem defE_bad {tb : List Bool} {l : Int} (h : l < 2 ∨ l % 2 = 1 ∨ (tb.length : Int) ≤ l / 2) : defE tb l = 30 := if_pos h
theorem defE_twice {tb : List Bool} {l : Int} (h : ¬ (l < 2 ∨ l % 2 = 1 ∨ (tb.length : Int) ≤ l / 2)) (h' : tb.getD (l / 2).toNat false = true) : defE tb l = 31 := by unfold defE; rw [if_neg h, if_pos h']
theorem defE_ok {tb : List Bool} {l : Int} (h : ¬ (l < 2 ∨ l % 2 = 1 ∨ (tb.length : Int) ≤ l / 2)) (h' : tb.getD (l / 2).toNat false = false) : defE tb l = 0 := by unfold defE; rw [if_neg h, if_neg (by rw [h']; decide)]
theorem defT_bad {tb : List Bool} {l : Int} (h : defE tb l ≠ 0) : defT tb l = tb := if_neg h
theorem defT_ok {tb : List Bool} {l : Int} (h : defE tb l = 0) : defT tb l = tb.set (l / 2).toNat true := if_pos h

theorem only_set {w wr : World} {g : Nat} (h : w.grownBy wr (some g)) (i : Nat) (u : Value) : w.grownBy (wr.setCell ⟨g, i, none⟩ u) (some g) :=
  ⟨h.os, h.tape, h.output, by simpa [World.setCell] using h.size, fun k hk hne => (Below.heap_setCell _ _ _ _ (by intro e; exact hne (by rw [e]))).trans (h.block k hk hne)⟩

set_option maxHeartbeats 400000 in
theorem define_any (w : World) (g : Nat) (tb : List Bool) (l : Int) (hl : I64 l) (ht : Tab w g tb) (hlen : tb.length ≤ 100000) :
    Calls Try.prog 124 #[.slice (some ⟨g, 0, none⟩) tb.length tb.length, .int .i64 l] w fun e w' => e = .returned (.int .i64 (defE tb l)) ∧ w.grownBy w' (some g) ∧ Tab w' g (defT tb l) := by
  by_cases h1 : l < 2
  · have hE := defE_bad (tb := tb) (l := l) (.inl h1)
    have hT := defT_bad (tb := tb) (l := l) (by rw [hE]; decide)
    rw [hE, hT]
    have HT := Lib.hid ht
    clear ht hE hT
    go_enter Try.func124, Try.ntmps124
    go_wp2
    go_ret
    exact ⟨rfl, World.grownBy.refl w _, HT.out⟩
  · have h0 : 0 ≤ l := by omega
    have hhalf := hl.half h0
    by_cases h2 : l % 2 = 1
    · have hE := defE_bad (tb := tb) (l := l) (.inr (.inl h2))
      have hT := defT_bad (tb := tb) (l := l) (by rw [hE]; decide)
      rw [hE, hT]
      have HT := Lib.hid ht
      have hq : (l % 2 == 1) = true := by simpa using h2
      clear ht hE hT h2
      go_enter Try.func124, Try.ntmps124
      go_wp2
      go_ret
      exact ⟨rfl, World.grownBy.refl w _, HT.out⟩
    · have hq : (l % 2 == 1) = false := by simpa using h2
      by_cases h3 : (tb.length : Int) ≤ l / 2
      · have hE := defE_bad (tb := tb) (l := l) (.inr (.inr h3))
        have hT := defT_bad (tb := tb) (l := l) (by rw [hE]; decide)
        rw [hE, hT]
        have HT := Lib.hid ht
        clear ht hE hT h2
        go_enter Try.func124, Try.ntmps124
        go_wp2
        go_ret
        exact ⟨rfl, World.grownBy.refl w _, HT.out⟩
      · have hno : ¬ (l < 2 ∨ l % 2 = 1 ∨ (tb.length : Int) ≤ l / 2) := by rintro (h | h | h) <;> contradiction
        have hk : (l / 2).toNat < tb.length := by omega
        have h4 : (0 : Int) ≤ l / 2 := by omega
        have h5 : l / 2 < (tb.length : Int) := by omega
        have hx := List.getElem?_eq_getElem hk
        have hcell := ht.cell hx
        have hfr := Blk.frozen ht (l / 2).toNat
        have hd : tb.getD (l / 2).toNat false = tb[(l / 2).toNat] := by simp [List.getD, hk]
        cases hbx : tb[(l / 2).toNat]
        · rw [hbx] at hcell hd
          have hE := defE_ok hno hd
          have hT := defT_ok hE
          rw [hE, hT]
          have HT := Lib.hid (ht.set_ (l / 2).toNat true)
          have HN := Lib.hid hno
          clear ht hE hT hx hd h2 hbx hno h3
          go_enter Try.func124, Try.ntmps124
          go_wp2
          go_ret
          exact ⟨rfl, only_set (World.grownBy.refl w _) _ _, HT.out⟩
        · rw [hbx] at hcell hd
          have hE := defE_twice hno hd
          have hT := defT_bad (tb := tb) (l := l) (by rw [hE]; decide)
          rw [hE, hT]
          have HT := Lib.hid ht
          have HN := Lib.hid hno
          clear ht hE hT hx hd h2 hbx hno h3
          go_enter Try.func124, Try.ntmps124
          go_wp2
          go_ret
          exact ⟨rfl, World.grownBy.refl w _, HT.out⟩

theorem useE_bad {tb : List Bool} {l : Int} (h : l < 0 ∨ (tb.length : Int) ≤ l / 2) : useE tb l = 30 := if_pos h
theorem useE_loose {tb : List Bool} {l : Int} (h : ¬ (l < 0 ∨ (tb.length : Int) ≤ l / 2)) (h' : tb.getD (l / 2).toNat false = false) : useE tb l = 32 := by unfold useE; rw [if_neg h, if_neg (by rw [h']; decide)]
theorem useE_ok {tb : List Bool} {l : Int} (h : ¬ (l < 0 ∨ (tb.length : Int) ≤ l / 2)) (h' : tb.getD (l / 2).toNat false = true) : useE tb l = 0 := by unfold useE; rw [if_neg h, if_pos h']

set_option maxHeartbeats 400000 in
theorem use_any (w : World) (g : Nat) (tb : List Bool) (l : Int) (hl : I64 l) (ht : Tab w g tb) (hlen : tb.length ≤ 100000) :
    Calls Try.prog 125 #[.slice (some ⟨g, 0, none⟩) tb.length tb.length, .int .i64 l] w fun e w' => e = .returned (.int .i64 (useE tb l)) ∧ w = w' := by
  by_cases h1 : l < 0
  · rw [useE_bad (tb := tb) (l := l) (.inl h1)]
    clear ht
    go_enter Try.func125, Try.ntmps125
    go_wp2
    go_ret
    exact ⟨rfl, rfl⟩
  · have h0 : 0 ≤ l := by omega
    have hhalf := hl.half h0
    by_cases h3 : (tb.length : Int) ≤ l / 2
    · rw [useE_bad (tb := tb) (l := l) (.inr h3)]
      clear ht
      go_enter Try.func125, Try.ntmps125
      go_wp2
      go_ret
      exact ⟨rfl, rfl⟩
    · have hno : ¬ (l < 0 ∨ (tb.length : Int) ≤ l / 2) := by rintro (h | h) <;> contradiction
      have hk : (l / 2).toNat < tb.length := by omega
      have h4 : (0 : Int) ≤ l / 2 := by omega
      have h5 : l / 2 < (tb.length : Int) := by omega
      have hcell := ht.cell (List.getElem?_eq_getElem hk)
      have hd : tb.getD (l / 2).toNat false = tb[(l / 2).toNat] := by simp [List.getD, hk]
      cases hbx : tb[(l / 2).toNat]
      · rw [hbx] at hcell hd
        rw [useE_loose hno hd]
        clear ht hd hbx hno h3
        go_enter Try.func125, Try.ntmps125
        go_wp2
        go_ret
        exact ⟨rfl, rfl⟩
      · rw [hbx] at hcell hd
        rw [useE_ok hno hd]
        clear ht hd hbx hno h3
        go_enter Try.func125, Try.ntmps125
        go_wp2
        go_ret
        exact ⟨rfl, rfl⟩

theorem firstE_step {α : Type} {f : α → Int} {x : α} {xs : List α} {k : Nat} (h : xs[k]? = some x) (h0 : f x = 0) : firstE f (xs.drop k) k = firstE f (xs.drop (k + 1)) (k + 1) := by
  rw [drop_one h, firstE, if_pos h0]
theorem firstE_stop {α : Type} {f : α → Int} {x : α} {xs : List α} {k : Nat} (h : xs[k]? = some x) (h0 : f x ≠ 0) : firstE f (xs.drop k) k = ((k : Int), f x) := by
  rw [drop_one h, firstE, if_neg h0]
theorem firstE_end {α : Type} {f : α → Int} {xs : List α} {k : Nat} (h : xs.length ≤ k) : firstE f (xs.drop k) k = (0, 0) := by rw [drop_all h]; rfl
theorem ret_two {k k' : IntKind} {p q : Int × Int} (h : p = q) : Ending.returned (.tuple #[.int k p.1, .int k' p.2]) = .returned (.tuple #[.int k q.1, .int k' q.2]) := by rw [h]

set_option maxHeartbeats 400000 in
theorem useAll_any (w : World) (g : Nat) (tb : List Bool) (v : Value) (zs : List Int) (ht : Tab w g tb) (hlen : tb.length ≤ 100000) (h : RowE 1 encI w v zs) (hok : ∀ z ∈ zs, I64 z) :
    Calls Try.prog 126 #[.slice (some ⟨g, 0, none⟩) tb.length tb.length, v] w fun e w' => e = .returned (.tuple #[.int .i64 (firstE (useE tb) zs 0).1, .int .i64 (firstE (useE tb) zs 0).2]) ∧ w = w' := by
  have hl := h.len
  unfold maxLen at hl
  obtain ⟨A, c, rfl, hc, hm, hp⟩ := h
  have HP := Lib.hid hp
  have HT := Lib.hid ht
  have HO := Lib.hid hok
  clear hp hc hm ht hok
  generalize hr : firstE (useE tb) zs 0 = r
  have HR := Lib.hid hr
  clear hr
  generalize hn : zs.length = n at *
  have HN := Lib.hid hn
  clear hn
  go_enter Try.func126, Try.ntmps126
  go_wp2
  go_loop [11] (fun i => ∃ k : Nat, k ≤ n ∧ i = .int .i64 k ∧ firstE (useE tb) zs 0 = firstE (useE tb) (zs.drop k) k) (fun i => n - (intOf i).toNat)
  case atStart => exact ⟨0, Nat.zero_le _, rfl, rfl⟩
  case round =>
    obtain ⟨k, hk, rfl, hall⟩ := hrel
    have HA := Lib.hid hall
    clear hall
    by_cases hlt : k < n
    · have hx := List.getElem?_eq_getElem (l := zs) (i := k) (by rw [HN.out]; exact hlt)
      generalize zs[k]'(by rw [HN.out]; exact hlt) = x at hx
      obtain ⟨b, off, rfl, hb, hcell⟩ := HP.out k x hx
      have h0 := hcell 0 _ rfl
      simp only [Nat.add_zero, Nat.mul_one] at h0
      have HX := Lib.hid hx
      clear hx hcell
      have hxo := HO.out x (List.mem_of_getElem? HX.out)
      by_cases hu : useE tb x = 0
      · have hcon := use_any w g tb x hxo HT.out hlen
        rw [hu] at hcon
        have HU := Lib.hid hu
        clear hu
        go_wp2_with (go_at_call 125; refine hcon.mono ?_; rintro e w' ⟨rfl, rfl⟩)
        go_round
        case rel => exact ⟨k + 1, by omega, by go_num, by rw [HA.out, firstE_step HX.out HU.out]⟩
        case measure => simp [intOf]; omega
      · have hcon := use_any w g tb x hxo HT.out hlen
        have hq : (useE tb x == 0) = false := by simpa using hu
        have hq2 : (useE tb x != 0) = true := by simpa using hu
        have HU := Lib.hid hu
        clear hu
        go_wp2_with (go_at_call 125; refine hcon.mono ?_; rintro e w' ⟨rfl, rfl⟩)
        go_ret2
        exact ⟨ret_two (p := ((k : Int), useE tb x)) (by rw [← HR.out, HA.out, firstE_stop HX.out HU.out]), rfl⟩
    · have : k = n := by omega
      subst this
      go_wp2
      go_ret2
      exact ⟨ret_two (p := (0, 0)) (by rw [← HR.out, HA.out, firstE_end (by rw [HN.out]; exact Nat.le_refl _)]), rfl⟩

theorem bool_info : (Try.prog.info? 4).map (fun i => (i.zero, i.size, i.bytes)) = some (some (.bool false), 1, 1) := by kernel_rfl
theorem info_of {t : TypeId} {z : Value} {s b : Nat} (h : (Try.prog.info? t).map (fun i => (i.zero, i.size, i.bytes)) = some (some z, s, b)) : ∃ i, Try.prog.info? t = some i ∧ i.zero = some z ∧ i.size = s ∧ i.bytes = b := by
  cases hi : Try.prog.info? t with
  | none => rw [hi] at h; cases h
  | some i => rw [hi] at h; simp at h; exact ⟨i, rfl, h.1, h.2.1, h.2.2⟩
theorem make_table (n : Nat) (h : n ≤ 281474976710656) (wx : World) : (Instr.makeSlice 111 (.int .i64 (n : Int)) (.int .i64 (n : Int))).run Try.prog wx = .ok (.slice (some ⟨wx.heap.size, 0, none⟩) n n) (wx.alloc (.cells (madeCells #[Value.bool false] n) 4)) := by
  obtain ⟨i0, hi0, hz0, hz1, hz2⟩ := info_of bool_info
  have := run_make (P := Try.prog) wx 111 4 i0 (.bool false) Try.underlying111 hi0 hz0 .i64 .i64 n n (by omega) (by omega) (by rw [hz2]; omega) (by omega)
  rw [hz1] at this
  simpa [Value.cells] using this
theorem made_falses (n : Nat) : madeCells #[Value.bool false] n = ((List.replicate n false).map Value.bool).toArray := by
  apply Array.toList_inj.1
  rw [toList_madeCells_one]; simp

/-- Nothing but the variable 0. -/
def tab0 (n : Nat) : List Bool := (List.replicate (n + 1) false).set 0 true
theorem tab0_len (n : Nat) : (tab0 n).length = n + 1 := by simp [tab0]
set_option maxHeartbeats 400000 in
theorem newTable_any (w : World) (n : Nat) (hn : n ≤ 16384) :
    Calls Try.prog 85 #[.int .i64 (n : Int)] w fun e w' => ∃ g, e = .returned (.slice (some ⟨g, 0, none⟩) (n + 1) (n + 1)) ∧ w.heap.size ≤ g ∧ Below w.heap.size w w' ∧ Tab w' g (tab0 n) := by
  have h1 := make_table (n + 1) (by omega)
  have h2 : Tab (w.alloc (.cells ((madeCells #[Value.bool false] (n + 1)).setIfInBounds 0 (.bool true)) 4)) w.heap.size (tab0 n) := by
    have := Blk.new w 4 ((madeCells #[Value.bool false] (n + 1)).setIfInBounds 0 (.bool true))
    have e : (madeCells #[Value.bool false] (n + 1)).setIfInBounds 0 (.bool true) = ((tab0 n).map Value.bool).toArray := by
      apply Array.toList_inj.1
      rw [made_falses]; simp [tab0, List.map_set]
    unfold Tab
    rwa [e] at this ⊢
  have hc0 : (madeCells #[Value.bool false] (n + 1))[0]? = some (.bool false) := by rw [made_falses]; simp
  have H2 := Lib.hid h2
  push_cast at h1
  clear h2
  go_enter Try.func85, Try.ntmps85
  go_wp2
  go_ret
  exact ⟨_, rfl, Nat.le_refl _, (Below.refl _ _).alloc (Nat.le_refl _) _, H2.out⟩
end Go.Proofs.Ytdodhbfplglbkaa
