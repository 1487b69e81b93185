/- Rows of bits and lists of words in memory: how a slice value reads as one, how a made one is written, and the program's word and spread. -/
import Derived.Test.YthchemgkfjmhjaaBit
import Derived.Test.YthchemgkfjmhjaaStr
import Derived.Laws.MakeOwn
import Derived.Laws.OwnMore
import Derived.OwnWalk
namespace Go.Proofs.Ythchemgkfjmhjaa
open Go.RowKit

abbrev bls (bs : List Bool) : List Value := bs.map Value.bool
abbrev wds (ws : List Nat) : List Value := ws.map (fun (n : Nat) => Value.int .u64 (n : Int))
theorem bls_one (bs : List Bool) : ∀ u ∈ bls bs, u.oneCell' = true := by
  intro u hu
  obtain ⟨z, _, rfl⟩ := List.mem_map.1 hu
  rfl
theorem wds_one (ws : List Nat) : ∀ u ∈ wds ws, u.oneCell' = true := by
  intro u hu
  obtain ⟨z, _, rfl⟩ := List.mem_map.1 hu
  rfl
theorem bool_info : (Try.prog.info? 4).map (fun i => (i.zero, i.size, i.bytes)) = some (some (.bool false), 1, 1) := by kernel_rfl
theorem u64_info : (Try.prog.info? 32).map (fun i => (i.zero, i.size, i.bytes)) = some (some (.int .u64 0), 1, 8) := by kernel_rfl

/-- The address A begins a run of the cells xs. -/
def Cells (w : World) (A : Option Addr) (xs : List Value) : Prop := ∀ i, i < xs.length → ∃ b off, A = some ⟨b, off, none⟩ ∧ b < w.heap.size ∧ w.cell? ⟨b, off + i, none⟩ = xs[i]?
/-- The slice value v reads, in w, as the cells xs. -/
def Row (w : World) (v : Value) (xs : List Value) : Prop := ∃ A c, v = .slice A xs.length c ∧ xs.length ≤ c ∧ c ≤ maxLen ∧ Cells w A xs

theorem Cells.below {w w' : World} {A : Option Addr} {xs : List Value} (h : Cells w A xs) (hb : Below w.heap.size w w') : Cells w' A xs := fun i hi => by
  obtain ⟨b, off, e, h1, h2⟩ := h i hi
  exact ⟨b, off, e, Nat.lt_of_lt_of_le h1 hb.size, (hb.cell (p := ⟨b, off + i, none⟩) h1).trans h2⟩
theorem Row.below {w w' : World} {v : Value} {xs : List Value} (h : Row w v xs) (hb : Below w.heap.size w w') : Row w' v xs := by
  obtain ⟨A, c, e, h1, h2, h3⟩ := h
  exact ⟨A, c, e, h1, h2, h3.below hb⟩
theorem Row.len {w : World} {v : Value} {xs : List Value} (h : Row w v xs) : xs.length ≤ maxLen := by
  obtain ⟨A, c, e, h1, h2, h3⟩ := h
  exact Nat.le_trans h1 h2
theorem Cells.cut {w : World} {A : Option Addr} {xs : List Value} (h : Cells w A xs) {l m : Nat} (hlm : l < m) (hm : m ≤ xs.length) : ∃ b off, A = some ⟨b, off, none⟩ ∧ b < w.heap.size ∧ Cells w (some ⟨b, off + l, none⟩) ((xs.take m).drop l) := by
  obtain ⟨b, off, e, h1, _⟩ := h l (by omega)
  refine ⟨b, off, e, h1, fun i hi => ⟨b, off + l, rfl, h1, ?_⟩⟩
  rw [List.length_drop, List.length_take] at hi
  obtain ⟨b', off', e', h3, h4⟩ := h (l + i) (by omega)
  rw [e] at e'; cases e'
  rw [Nat.add_assoc, h4, List.getElem?_drop, List.getElem?_take, if_pos (by omega)]
theorem Cells.bit {w : World} {A : Option Addr} {bs : List Bool} (h : Cells w A (bls bs)) (i : Nat) (hi : i < bs.length) : ∃ b off, A = some ⟨b, off, none⟩ ∧ b < w.heap.size ∧ w.cell? ⟨b, off + i, none⟩ = some (.bool (bit bs i)) := by
  obtain ⟨b, off, e, h1, h2⟩ := h i (by simpa using hi)
  exact ⟨b, off, e, h1, by rw [h2]; simp [hi]⟩
theorem Cells.word {w : World} {A : Option Addr} {ws : List Nat} (h : Cells w A (wds ws)) (i : Nat) (hi : i < ws.length) : ∃ b off, A = some ⟨b, off, none⟩ ∧ b < w.heap.size ∧ w.cell? ⟨b, off + i, none⟩ = some (.int .u64 ((ws.getD i 0 : Nat) : Int)) := by
  obtain ⟨b, off, e, h1, h2⟩ := h i (by simpa using hi)
  exact ⟨b, off, e, h1, by rw [h2]; simp [List.getD, hi]⟩
theorem own_row {w : World} {B n : Nat} {t : TypeId} {v : Value} {xs : List Value} (h : w.ownsRow B t 1 v n xs) : Row w v xs := by
  have hl : xs.length = n := by have := h.1; omega
  rcases h.2 with ⟨rfl, h0⟩ | ⟨g, cap, cur, rfl, hb, hg, h1, h2, h3, h4⟩
  · have : xs = [] := List.eq_nil_of_length_eq_zero (by omega)
    subst this
    exact ⟨none, 0, rfl, by simp, by simp [maxLen], fun i hi => by simp at hi⟩
  · subst hl
    refine ⟨_, cap, rfl, h1, h2, fun i hi => ⟨g, 0, rfl, (Array.getElem?_eq_some_iff.1 hg).1, ?_⟩⟩
    have := h.cells (g := g) rfl i xs[i] (List.getElem?_eq_getElem hi)
    rw [add_none] at this
    rw [this, List.getElem?_eq_getElem hi]

theorem own_mono {w : World} {B B' n : Nat} {t : TypeId} {v : Value} {xs : List Value} (h : w.ownsRow B t 1 v n xs) (hb : B' ≤ B) : w.ownsRow B' t 1 v n xs := by
  refine ⟨h.1, ?_⟩
  rcases h.2 with h2 | ⟨g, cap, cur, hv, hB, h3⟩
  · exact .inl h2
  · exact .inr ⟨g, cap, cur, hv, by omega, h3⟩
theorem own_len {w : World} {B n : Nat} {t : TypeId} {v : Value} {xs : List Value} (h : w.ownsRow B t 1 v n xs) : ∃ A c, v = .slice A n c := by
  rcases h.2 with ⟨rfl, rfl⟩ | ⟨g, cap, cur, rfl, _⟩
  · exact ⟨_, _, rfl⟩
  · exact ⟨_, _, rfl⟩
theorem own_keep {w w' : World} {B n : Nat} {t : TypeId} {v : Value} {xs : List Value} (h : w.ownsRow B t 1 v n xs) (hb : Below w.heap.size w w') : w'.ownsRow B t 1 v n xs := by
  refine ⟨h.1, ?_⟩
  rcases h.2 with h2 | ⟨g, cap, cur, hv, hB, hg, h3⟩
  · exact .inl h2
  · exact .inr ⟨g, cap, cur, hv, hB, (hb.block g (Array.getElem?_eq_some_iff.1 hg).1).trans hg, h3⟩

theorem only_set {w wr : World} {g : Nat} (h : w.grownBy wr (some g)) (i : Nat) (u : Value) : w.grownBy (wr.setCell ⟨g, i, none⟩ u) (some g) :=
  ⟨h.os, h.tape, h.output, by simpa [World.setCell] using h.size, fun k hk hne => (Below.heap_setCell _ _ _ _ (by intro e; exact hne (by rw [e]))).trans (h.block k hk hne)⟩

/-- A row of n bits, bit i being f i. -/
abbrev mkb (n : Nat) (f : Nat → Bool) : List Bool := (List.range n).map f
abbrev mkw (n : Nat) (f : Nat → Nat) : List Nat := (List.range n).map f
theorem mkb_len (n : Nat) (f : Nat → Bool) : (mkb n f).length = n := by simp
theorem mkb_bit {n i : Nat} (f : Nat → Bool) (h : i < n) : bit (mkb n f) i = f i := by simp [bit, List.getD, h]
theorem mkb_of (bs : List Bool) : mkb bs.length (bit bs) = bs := ext_bits (by simp) (fun i hi => mkb_bit _ hi)
theorem mkb_congr {n : Nat} {f g : Nat → Bool} (h : ∀ i, i < n → f i = g i) : mkb n f = mkb n g := List.map_congr_left fun i hi => h i (List.mem_range.1 hi)
theorem mkw_congr {n : Nat} {f g : Nat → Nat} (h : ∀ i, i < n → f i = g i) : mkw n f = mkw n g := List.map_congr_left fun i hi => h i (List.mem_range.1 hi)
theorem map_set {α : Type} (n i : Nat) (f : Nat → α) (F : α → Value) (x : α) (_hi : i < n) : (((List.range n).map f).map F).set i (F x) = ((List.range n).map (fun j => if j = i then x else f j)).map F := by
  apply List.ext_getElem (by simp)
  intro j h1 h2
  rw [List.getElem_set]
  by_cases e : i = j
  · subst e; simp
  · simp [e, Ne.symm e]

theorem make_bools (n : Nat) (h : n ≤ 281474976710656) (wx : World) : (Instr.makeSlice 22 (.int .i64 (n : Int)) (.int .i64 (n : Int))).run Try.prog wx = .ok (.slice (some ⟨wx.heap.size, 0, none⟩) n n) (wx.alloc (.cells (madeCells #[Value.bool false] n) 4)) := by
  obtain ⟨i0, hi0, hz0, hz1, hz2⟩ := info_parts bool_info
  have := run_make (P := Try.prog) wx 22 4 i0 (.bool false) Try.underlying22 hi0 hz0 .i64 .i64 n n (by omega) (by omega) (by rw [hz2]; omega) (by omega)
  rw [hz1] at this
  simpa [Value.cells] using this
theorem make_words (n : Nat) (h : n ≤ 281474976710) (wx : World) : (Instr.makeSlice 23 (.int .i64 (n : Int)) (.int .i64 (n : Int))).run Try.prog wx = .ok (.slice (some ⟨wx.heap.size, 0, none⟩) n n) (wx.alloc (.cells (madeCells #[Value.int .u64 0] n) 32)) := by
  obtain ⟨i0, hi0, hz0, hz1, hz2⟩ := info_parts u64_info
  have := run_make (P := Try.prog) wx 23 32 i0 (.int .u64 0) Try.underlying23 hi0 hz0 .i64 .i64 n n (by omega) (by omega) (by rw [hz2]; omega) (by omega)
  rw [hz1] at this
  simpa [Value.cells] using this
theorem made_bools (w : World) (n : Nat) (h : n ≤ maxLen) : (w.alloc (.cells (madeCells #[Value.bool false] n) 4)).ownsRow w.heap.size 4 1 (.slice (some ⟨w.heap.size, 0, none⟩) n n) n (bls (mkb n fun _ => false)) := by
  have := World.ownsRow_lit (base := w.heap.size) (e := 4) (size := 1) w (madeCells #[Value.bool false] n) n (Nat.le_refl _) h (by rw [size_madeCells]; omega)
  rw [toList_madeCells_one] at this
  have e : bls (mkb n fun _ => false) = List.replicate n (Value.bool false) := by
    apply List.ext_getElem (by simp)
    intro i h1 h2
    simp
  rw [e]; exact this
theorem made_words (w : World) (n : Nat) (h : n ≤ maxLen) : (w.alloc (.cells (madeCells #[Value.int .u64 0] n) 32)).ownsRow w.heap.size 32 1 (.slice (some ⟨w.heap.size, 0, none⟩) n n) n (wds (mkw n fun _ => 0)) := by
  have := World.ownsRow_lit (base := w.heap.size) (e := 32) (size := 1) w (madeCells #[Value.int .u64 0] n) n (Nat.le_refl _) h (by rw [size_madeCells]; omega)
  rw [toList_madeCells_one] at this
  have e : wds (mkw n fun _ => 0) = List.replicate n (Value.int .u64 0) := by
    apply List.ext_getElem (by simp)
    intro i h1 h2
    simp
  rw [e]; exact this

theorem wrap_pow {k : Nat} (hk : k < 64) : IntKind.u64.wrap ((2 : Int) ^ k) = ((2 ^ k : Nat) : Int) := by
  have h1 : 2 ^ k < 2 ^ 64 := Nat.pow_lt_pow_right (by omega) hk
  have e : (2 : Int) ^ k = ((2 ^ k : Nat) : Int) := by push_cast; rfl
  rw [e]
  have h2 : 2 ^ k < 18446744073709551616 := h1
  generalize 2 ^ k = p at h2
  simp only [IntKind.wrap, IntKind.bits, IntKind.signed]
  simp; omega
theorem or_bit {f : Nat → Bool} {k : Nat} (hk : k < 64) (h : f k = true) : bits .or .u64 ((nb f k : Nat) : Int) ((2 ^ k : Nat) : Int) = ((nb f (k + 1) : Nat) : Int) := by
  have h1 : 2 ^ k < 2 ^ 64 := Nat.pow_lt_pow_right (by omega) hk
  have h2 := nb_lt f k
  rw [bits_or_u64_nat _ _ (by omega) (by omega), nb_or f k h]

set_option maxHeartbeats 1000000 in
set_option maxRecDepth 100000 in
theorem word_any (w : World) (A : Option Addr) (c : Nat) (bs : List Bool) (h : Cells w A (bls bs)) (hl : bs.length ≤ 64) : Calls Try.prog 38 #[.slice A bs.length c] w fun e w' => e = .returned (.int .u64 ((nb (bit bs) bs.length : Nat) : Int)) ∧ w = w' := by
  have HC := Lib.hid h
  clear h
  go_enter Try.func38, Try.ntmps38
  go_wp2
  go_loop [3, 8] (fun q i => ∃ k x : Nat, k ≤ bs.length ∧ i = .int .i64 k ∧ q = .int .u64 (x : Int) ∧ x = nb (bit bs) k) (fun q i => bs.length - (intOf i).toNat)
  case atStart => exact ⟨0, 0, by omega, rfl, rfl, rfl⟩
  case round =>
    obtain ⟨k, x, hk, rfl, rfl, hx⟩ := hrel
    have HX := Lib.hid hx
    have hxl : x < 18446744073709551616 := by
      have h1 := nb_lt (bit bs) k
      have h2 : 2 ^ k ≤ 2 ^ 64 := Nat.pow_le_pow_right (by omega) (by omega)
      omega
    clear hx
    by_cases hlt : k < bs.length
    · obtain ⟨b, off, rfl, hb, hcell⟩ := HC.out.bit k hlt
      cases hbit : bit bs k
      · rw [hbit] at hcell
        have HN := Lib.hid (nb_skip (bit bs) k hbit)
        clear hbit
        go_wp2
        go_round
        case rel => exact ⟨k + 1, x, by omega, by go_num, rfl, by rw [HN.out, HX.out]⟩
        case measure => simp [intOf]; omega
      · rw [hbit] at hcell
        have hsh := wrap_pow (k := k) (by omega)
        have hor := or_bit (f := bit bs) (k := k) (by omega) hbit
        rw [← HX.out] at hor
        generalize hnx : nb (bit bs) (k + 1) = x' at hor
        generalize hp : 2 ^ k = p at hor hsh
        have HN := Lib.hid hnx
        clear hbit hnx hp
        go_wp2
        go_round
        case rel => exact ⟨k + 1, x', by omega, by go_num, rfl, by rw [HN.out]⟩
        case measure => simp [intOf]; omega
    · have : k = bs.length := by omega
      subst this
      go_wp2
      go_ret
      exact ⟨by rw [← HX.out]; rfl, rfl⟩
end Go.Proofs.Ythchemgkfjmhjaa
