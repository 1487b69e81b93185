/- Sim: the contract of the program's Run. -/
import Derived.Test.YtdodhbfplglbkaaSimK
import Derived.Test.YtdodhbfplglbkaaSimE
namespace Go.Proofs.Ytdodhbfplglbkaa
open Go.RowKit

structure Tr where
  init : List Bool
  rows : List (List Bool)
  loop : Int
structure TV where
  i : Value
  r : Value
abbrev TV.cells (U : TV) (k : Int) : Array Value := #[U.i, U.r, .int .i64 k]
abbrev TV.val (U : TV) (k : Int) : Value := .agg (U.cells k)
/-- A list of rows of truths. -/
def ListsO (w : World) (v : Value) (zss : List (List Bool)) : Prop :=
  ∃ vs : List Value, RowE 1 encV w v vs ∧ vs.length = zss.length ∧ ∀ (i : Nat) (u : Value) (zs : List Bool), vs[i]? = some u → zss[i]? = some zs → RowE 1 encO w u zs
theorem ListsO.below {w w' : World} {v : Value} {zss : List (List Bool)} (h : ListsO w v zss) (hb : Below w.heap.size w w') : ListsO w' v zss := by
  obtain ⟨vs, h1, h2, h3⟩ := h
  exact ⟨vs, h1.below hb, h2, fun i u zs hu hz => (h3 i u zs hu hz).below hb⟩
theorem ListsO.at_ {w : World} {v : Value} {zss : List (List Bool)} (h : ListsO w v zss) : ∃ A c, v = .slice A zss.length c ∧ zss.length ≤ maxLen ∧ ∀ (i : Nat) (zs : List Bool), zss[i]? = some zs → ∃ b off u, A = some ⟨b, off, none⟩ ∧ b < w.heap.size ∧ w.cell? ⟨b, off + i, none⟩ = some u ∧ RowE 1 encO w u zs := by
  obtain ⟨vs, h1, h2, h3⟩ := h
  have hl := h1.len
  obtain ⟨A, c, rfl, _, _, h6⟩ := h1
  refine ⟨A, c, by rw [h2], by rw [← h2]; exact hl, fun i zs hz => ?_⟩
  have hi : i < vs.length := by rw [h2]; exact (List.getElem?_eq_some_iff.1 hz).1
  obtain ⟨b, off, e, hb, hc⟩ := h6 i _ (List.getElem?_eq_getElem hi)
  have := hc 0 _ rfl
  simp only [Nat.add_zero, Nat.mul_one] at this
  exact ⟨b, off, _, e, hb, this, h3 i _ zs (List.getElem?_eq_getElem hi) hz⟩
structure Tr.In (w : World) (U : TV) (t : Tr) : Prop where
  i : RowE 1 encO w U.i t.init
  r : ListsO w U.r t.rows
theorem Tr.In.below {w w' : World} {U : TV} {t : Tr} (h : t.In w U) (hb : Below w.heap.size w w') : t.In w' U := ⟨h.i.below hb, h.r.below hb⟩
@[go_sem] theorem eql_nilO (a : Option Addr) (l c : Nat) (w : World) : (binOp .eql 55 (.slice a l c) (.slice none 0 0)).run Try.prog w = .ok (.bool a.isNone) w := by
  simp only [binOp]
  simp [run_equal_slice_nil w _ _ a l c Try.underlying55]
end Go.Proofs.Ytdodhbfplglbkaa

namespace Go.Proofs.Ytdodhbfplglbkaa
open Go.RowKit

/-- The values of a moment. -/
structure MV where
  s : Value
  h : Bool
  b : Value
  f : Value
structure MomR (w : World) (B : Nat) (x : MV) (m : Mom) : Prop where
  s : w.ownsRow B 4 1 x.s m.st.length (m.st.map Value.bool)
  h : x.h = m.holds
  b : w.ownsRow B 3 1 x.b m.bads.length (m.bads.map (Value.int .i64))
  f : w.ownsRow B 178 2 x.f m.fair.length (m.fair.flatMap encQ)
def ApV (u v : Value) : Prop := ∀ g, u.ownBlock = some g → v.ownBlock ≠ some g
structure Moms (w : World) (B : Nat) (xs : List MV) (ms : List Mom) : Prop where
  len : xs.length = ms.length
  at_ : ∀ (i : Nat) (x : MV) (m : Mom), xs[i]? = some x → ms[i]? = some m → MomR w B x m
  apart : ∀ (i j : Nat) (x y : MV), i < j → xs[i]? = some x → xs[j]? = some y → ApV x.s y.s ∧ ApV x.b y.b
theorem MomR.keep {w w' : World} {B : Nat} {x : MV} {m : Mom} (h : MomR w B x m) (hk : ∀ (g : Nat), (x.s.ownBlock = some g ∨ x.b.ownBlock = some g ∨ x.f.ownBlock = some g) → w'.heap[g]? = w.heap[g]?) : MomR w' B x m :=
  ⟨own_of_block h.s (fun g hg => hk g (.inl hg)), h.h, own_of_block h.b (fun g hg => hk g (.inr (.inl hg))), own_of_block h.f (fun g hg => hk g (.inr (.inr hg)))⟩
theorem MomR.lt {w : World} {B : Nat} {x : MV} {m : Mom} (h : MomR w B x m) {g : Nat} (hg : x.s.ownBlock = some g ∨ x.b.ownBlock = some g ∨ x.f.ownBlock = some g) : B ≤ g ∧ g < w.heap.size := by
  rcases hg with hg | hg | hg
  · exact h.s.lt g hg
  · exact h.b.lt g hg
  · exact h.f.lt g hg
theorem MomR.ty {w : World} {B : Nat} {x : MV} {m : Mom} (h : MomR w B x m) {g : Nat} (hg : x.s.ownBlock = some g ∨ x.b.ownBlock = some g ∨ x.f.ownBlock = some g) : ∃ t cs, Blk w g t cs ∧ t ≠ 104 := by
  rcases hg with hg | hg | hg
  · obtain ⟨cs, hb⟩ := own_cellsF h.s hg; exact ⟨_, cs, hb, by decide⟩
  · obtain ⟨cs, hb⟩ := own_cellsF h.b hg; exact ⟨_, cs, hb, by decide⟩
  · obtain ⟨cs, hb⟩ := own_cellsF h.f hg; exact ⟨_, cs, hb, by decide⟩
theorem Moms.below {w w' : World} {B : Nat} {xs : List MV} {ms : List Mom} (h : Moms w B xs ms) (hb : Below w.heap.size w w') : Moms w' B xs ms :=
  ⟨h.len, fun i x m hx hm => (h.at_ i x m hx hm).keep (fun g hg => hb.block g ((h.at_ i x m hx hm).lt hg).2), h.apart⟩
theorem Moms.nil (w : World) (B : Nat) : Moms w B [] [] := ⟨rfl, fun i x m hx => by simp at hx, fun i j x y _ hx => by simp at hx⟩
/-- One moment more, whose lists are others than those ahead. -/
theorem Moms.snoc {w : World} {B : Nat} {xs : List MV} {ms : List Mom} (h : Moms w B xs ms) {x : MV} {m : Mom} (hx : MomR w B x m) (hs : ∀ y ∈ xs, ApV y.s x.s ∧ ApV y.b x.b) : Moms w B (xs ++ [x]) (ms ++ [m]) := by
  refine ⟨by simp [h.len], fun i y n hy hn => ?_, fun i j y z hij hy hz => ?_⟩
  · by_cases hi : i < xs.length
    · rw [List.getElem?_append_left hi] at hy
      rw [List.getElem?_append_left (by rw [← h.len]; exact hi)] at hn
      exact h.at_ i y n hy hn
    · rw [List.getElem?_append_right (by omega)] at hy
      rw [List.getElem?_append_right (by rw [← h.len]; omega), ← h.len] at hn
      have : i - xs.length = 0 := by have := (List.getElem?_eq_some_iff.1 hy).1; simp at this; exact this
      rw [this] at hy hn
      simp at hy hn
      subst hy hn
      exact hx
  · have hjl : j < xs.length + 1 := by have := (List.getElem?_eq_some_iff.1 hz).1; simpa using this
    rw [List.getElem?_append_left (by omega)] at hy
    by_cases hj : j < xs.length
    · rw [List.getElem?_append_left hj] at hz
      exact h.apart i j y z hij hy hz
    · rw [List.getElem?_append_right (by omega), show j - xs.length = 0 by omega] at hz
      simp at hz
      subst hz
      exact hs y (List.mem_of_getElem? hy)
/-- The block of the moments themselves. -/
def MomB (w : World) (g n : Nat) (xs : List MV) : Prop := ∃ cs : Array Value, Blk w g 104 cs ∧ cs.size = n * 4 ∧ ∀ (i : Nat) (x : MV), xs[i]? = some x → cs[i * 4]? = some x.s ∧ cs[i * 4 + 1]? = some (.bool x.h) ∧ cs[i * 4 + 2]? = some x.b ∧ cs[i * 4 + 3]? = some x.f
theorem MomB.lt {w : World} {g n : Nat} {xs : List MV} (h : MomB w g n xs) : g < w.heap.size := by
  obtain ⟨cs, hb, _⟩ := h
  exact hb.lt
theorem MomB.below {w w' : World} {g n B : Nat} {xs : List MV} (h : MomB w g n xs) (hb : Below B w w') (hg : g < B) : MomB w' g n xs := by
  obtain ⟨cs, h1, h2⟩ := h
  exact ⟨cs, h1.below hb hg, h2⟩
theorem MomB.cells {w : World} {g n : Nat} {xs : List MV} (h : MomB w g n xs) {i : Nat} {x : MV} (hx : xs[i]? = some x) : w.cell? ⟨g, i * 4, none⟩ = some x.s ∧ w.cell? ⟨g, i * 4 + 1, none⟩ = some (.bool x.h) ∧ w.cell? ⟨g, i * 4 + 2, none⟩ = some x.b ∧ w.cell? ⟨g, i * 4 + 3, none⟩ = some x.f := by
  obtain ⟨cs, h1, _, h3⟩ := h
  obtain ⟨a, b, c, d⟩ := h3 i x hx
  exact ⟨by rw [h1.cell, a], by rw [h1.cell, b], by rw [h1.cell, c], by rw [h1.cell, d]⟩
theorem MomB.put {w : World} {g n : Nat} {xs : List MV} (h : MomB w g n xs) (hk : xs.length < n) (x : MV) :
    MomB ((((w.setCell ⟨g, xs.length * 4, none⟩ x.s).setCell ⟨g, xs.length * 4 + 1, none⟩ (.bool x.h)).setCell ⟨g, xs.length * 4 + 2, none⟩ x.b).setCell ⟨g, xs.length * 4 + 3, none⟩ x.f) g n (xs ++ [x]) := by
  obtain ⟨cs, h1, h2, h3⟩ := h
  refine ⟨_, Blk.set_ (Blk.set_ (Blk.set_ (Blk.set_ h1 _ _) _ _) _ _) _ _, by simpa using h2, fun i y hy => ?_⟩
  by_cases hi : i < xs.length
  · rw [List.getElem?_append_left hi] at hy
    obtain ⟨a, b, c, d⟩ := h3 i y hy
    refine ⟨?_, ?_, ?_, ?_⟩ <;> (repeat rw [Array.getElem?_setIfInBounds_ne (by omega)]) <;> assumption
  · rw [List.getElem?_append_right (by omega)] at hy
    have hz : i - xs.length = 0 := by have := (List.getElem?_eq_some_iff.1 hy).1; simp at this; exact this
    have hie : i = xs.length := by omega
    subst hie
    simp at hy
    subst hy
    refine ⟨?_, ?_, ?_, ?_⟩
    · rw [Array.getElem?_setIfInBounds_ne (by omega), Array.getElem?_setIfInBounds_ne (by omega), Array.getElem?_setIfInBounds_ne (by omega), Array.getElem?_setIfInBounds_self_of_lt (by omega)]
    · rw [Array.getElem?_setIfInBounds_ne (by omega), Array.getElem?_setIfInBounds_ne (by omega), Array.getElem?_setIfInBounds_self_of_lt (by simp; omega)]
    · rw [Array.getElem?_setIfInBounds_ne (by omega), Array.getElem?_setIfInBounds_self_of_lt (by simp; omega)]
    · rw [Array.getElem?_setIfInBounds_self_of_lt (by simp; omega)]
end Go.Proofs.Ytdodhbfplglbkaa

namespace Go.Proofs.Ytdodhbfplglbkaa
open Go.RowKit

section
variable {w : World} {gm n : Nat} {xs : List MV}
end
end Go.Proofs.Ytdodhbfplglbkaa
