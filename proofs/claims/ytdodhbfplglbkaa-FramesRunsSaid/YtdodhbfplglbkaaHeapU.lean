/- The contract of heap's up. -/
import Derived.Test.YtdodhbfplglbkaaTarjC
import Derived.BigRegion
import Derived.OwnWalk
namespace Go.Proofs.Ytdodhbfplglbkaa
open Go.RowKit

end Go.Proofs.Ytdodhbfplglbkaa

namespace Go.Proofs.Ytdodhbfplglbkaa
open Go.RowKit

/-- A gate may come next behind those of L. -/
def Avail (uses : List (Int × Int)) (L : List Int) (y : Int) : Prop := InR uses.length y ∧ y ∉ L ∧ ∀ z, Edge uses y z → z ∈ L
/-- The least one that may come is always the next. -/
inductive Greedy (uses : List (Int × Int)) : List Int → Prop where
  | nil : Greedy uses []
  | snoc {L : List Int} {i : Int} : Greedy uses L → Avail uses L i → (∀ y, Avail uses L y → i ≤ y) → Greedy uses (L ++ [i])
structure OS where
  told : List Bool
  wait : List (List Int)
  hp : List Int
  out : List Int
  next : Nat
def wt (W : List (List Int)) (u : Int) : List Int := W.getD u.toNat []
section
variable {uses : List (Int × Int)}
theorem nodup_sub {α : Type} [DecidableEq α] : ∀ {l m : List α}, l.Nodup → (∀ x ∈ l, x ∈ m) → l.length ≤ m.length
  | [], _, _, _ => by simp
  | a :: l, m, h, hs => by
    obtain ⟨h1, h2⟩ := List.nodup_cons.1 h
    have ha : a ∈ m := hs a (by simp)
    have := nodup_sub (l := l) (m := m.erase a) h2 (fun x hx => by
      have hne : x ≠ a := fun e => h1 (e ▸ hx)
      exact (List.mem_erase_of_ne hne).2 (hs x (by simp [hx])))
    rw [List.length_erase_of_mem ha] at this
    have hp : 0 < m.length := List.length_pos_iff.2 (fun e => by rw [e] at ha; simp at ha)
    simp only [List.length_cons]
    omega
theorem Greedy.nodup {L : List Int} (h : Greedy uses L) : L.Nodup := by
  induction h with
  | nil => exact List.nodup_nil
  | snoc _ ha _ ih =>
    rw [List.nodup_append]
    refine ⟨ih, by simp, ?_⟩
    intro x hx y hy
    simp only [List.mem_singleton] at hy
    subst hy
    rintro rfl
    exact ha.2.1 hx
theorem Greedy.inR {L : List Int} (h : Greedy uses L) : ∀ x ∈ L, InR uses.length x := by
  induction h with
  | nil => simp
  | snoc _ ha _ ih =>
    intro x hx
    rcases List.mem_append.1 hx with hx | hx
    · exact ih x hx
    · simp only [List.mem_singleton] at hx
      subst hx
      exact ha.1
def intRange (n : Nat) : List Int := (List.range n).map (fun k : Nat => (k : Int))
theorem mem_intRange {n : Nat} {x : Int} : x ∈ intRange n ↔ InR n x := by
  unfold intRange InR
  simp only [List.mem_map, List.mem_range]
  constructor
  · rintro ⟨k, hk, rfl⟩; omega
  · intro h
    exact ⟨x.toNat, by omega, by omega⟩
theorem nodup_map_inj {α β : Type} {f : α → β} (hf : ∀ a b, f a = f b → a = b) {l : List α} (h : l.Nodup) : (l.map f).Nodup := by
  induction h with
  | nil => simp
  | cons ha _ ih =>
    simp only [List.map_cons, List.nodup_cons]
    refine ⟨fun hm => ?_, ih⟩
    obtain ⟨b, hb, e⟩ := List.mem_map.1 hm
    exact ha b hb (hf _ _ e).symm
theorem nodup_intRange (n : Nat) : (intRange n).Nodup := nodup_map_inj (fun a b h => by omega) List.nodup_range
theorem len_intRange (n : Nat) : (intRange n).length = n := by simp [intRange]
theorem in_le {L : List Int} {n : Nat} (h : L.Nodup) (hr : ∀ x ∈ L, InR n x) : L.length ≤ n := by
  have := nodup_sub h (fun x hx => mem_intRange.2 (hr x hx))
  rwa [len_intRange] at this
theorem some_left {L : List Int} {n : Nat} (h : L.length < n) : ∃ y, InR n y ∧ y ∉ L := by
  apply Classical.byContradiction
  intro hc
  have := nodup_sub (nodup_intRange n) (m := L) (fun x hx => Classical.byContradiction fun hx' => hc ⟨x, mem_intRange.1 hx, hx'⟩)
  rw [len_intRange] at this
  omega
theorem Greedy.len_le {L : List Int} (h : Greedy uses L) : L.length ≤ uses.length := in_le h.nodup h.inR
/-- The least rank of what is left. -/
theorem least_rank (r : Int → Nat) {P : Int → Prop} : ∀ (k : Nat) (y : Int), r y ≤ k → P y → ∃ y, P y ∧ ∀ z, P z → r y ≤ r z
  | 0, y, hk, hy => ⟨y, hy, fun z _ => by omega⟩
  | k + 1, y, hk, hy => by
    by_cases h : ∃ z, P z ∧ r z < r y
    · obtain ⟨z, hz, hlt⟩ := h
      exact least_rank r k z (by omega) hz
    · refine ⟨y, hy, fun z hz => ?_⟩
      apply Classical.byContradiction
      intro hc
      exact h ⟨z, hz, by omega⟩
/-- Each one stands behind those that it uses. -/
theorem Greedy.before {L : List Int} (h : Greedy uses L) : ∀ (k : Nat) (i : Int), L[k]? = some i → ∀ z, Edge uses i z → z ∈ L.take k := by
  induction h with
  | nil => simp
  | @snoc L j hL ha _ ih =>
    intro k i hk z hz
    by_cases hlt : k < L.length
    · rw [List.getElem?_append_left hlt] at hk
      rw [List.take_append_of_le_length (by omega)]
      exact ih k i hk z hz
    · have hk2 : k = L.length := by
        obtain ⟨hl, _⟩ := List.getElem?_eq_some_iff.1 hk
        simp at hl; omega
      subst hk2
      simp at hk
      subst hk
      simp
      exact ha.2.2 z hz
end
end Go.Proofs.Ytdodhbfplglbkaa

namespace Go.Proofs.Ytdodhbfplglbkaa
open Go.RowKit

/-- A block that holds a row of numbers: the row's own reading, for stores and loads. -/
theorem own_cells {w : World} {B : Nat} {v : Value} {xs : List Int} (h : w.ownsRow B 3 1 v xs.length (xs.map (Value.int .i64))) (hn : 0 < xs.length) :
    ∃ g cap, v = .slice (some ⟨g, 0, none⟩) xs.length cap ∧ B ≤ g ∧ xs.length ≤ cap ∧ cap ≤ maxLen ∧ g < w.heap.size ∧ (∀ k, k < xs.length → w.cell? ⟨g, k, none⟩ = some (.int .i64 (xs.getD k 0))) ∧ (∀ k, w.frozen? ⟨g, k, none⟩ = false) ∧
      (∀ k, k < xs.length → ∀ x : Int, (w.setCell ⟨g, k, none⟩ (.int .i64 x)).ownsRow B 3 1 v xs.length ((xs.set k x).map (Value.int .i64))) := by
  obtain ⟨g, cap, cur, rfl, hB, hb, h1, h2, h3, h4⟩ := own_some h hn
  refine ⟨g, cap, rfl, hB, h1, h2, hb.lt, fun k hk => ?_, fun k => hb.frozen k, fun k hk x => ?_⟩
  · rw [hb.cell]
    have : (cur.toList.take xs.length)[k]? = (xs.map (Value.int .i64))[k]? := by rw [h4]
    rw [List.getElem?_take, if_pos hk, Array.getElem?_toList, List.getElem?_map, getD_some hk (d := 0)] at this
    simpa using this
  · refine ⟨by simp, .inr ⟨g, cap, cur.setIfInBounds k (.int .i64 x), rfl, hB, Blk.set_ hb k _, h1, h2, by simpa using h3, ?_⟩⟩
    rw [Array.toList_setIfInBounds, List.map_set, ← h4]
    simp [List.take_set]

end Go.Proofs.Ytdodhbfplglbkaa

namespace Go.Proofs.Ytdodhbfplglbkaa
open Go.RowKit

/-- A heap in memory: its block holds the row that reads so. -/
structure HpB (w : World) (B b : Nat) (v : Value) (xs : List Int) : Prop where
  box : Blk w b 169 #[v]
  row : w.ownsRow B 3 1 v xs.length (xs.map (Value.int .i64))
  lt : b < B
theorem HpB.drewN {w : World} {B b : Nat} {v : Value} {xs : List Int} (h : HpB w B b v xs) (k : Nat) : HpB (w.drewN k) B b v xs := ⟨h.box, own_below h.row (below_drewN (Below.refl _ _) k), h.lt⟩
@[go_sem] theorem nil_ahead_Less (a : Addr) (w : World) (f : Nat) : (nilAhead (f + 1) 166 (.pointer (some a)) "Less").run Try.prog w = .ok (some false) w := by kernel_rfl
@[go_sem] theorem nil_ahead_Swap (a : Addr) (w : World) (f : Nat) : (nilAhead (f + 1) 166 (.pointer (some a)) "Swap").run Try.prog w = .ok (some false) w := by kernel_rfl
@[go_sem] theorem nil_ahead_Len (a : Addr) (w : World) (f : Nat) : (nilAhead (f + 1) 166 (.pointer (some a)) "Len").run Try.prog w = .ok (some false) w := by kernel_rfl
@[go_sem] theorem nil_ahead_Push (a : Addr) (w : World) (f : Nat) : (nilAhead (f + 1) 166 (.pointer (some a)) "Push").run Try.prog w = .ok (some false) w := by kernel_rfl
@[go_sem] theorem nil_ahead_Pop (a : Addr) (w : World) (f : Nat) : (nilAhead (f + 1) 166 (.pointer (some a)) "Pop").run Try.prog w = .ok (some false) w := by kernel_rfl
theorem HpB.set_ {w : World} {B b g m cap : Nat} {xs : List Int} (h : HpB w B b (.slice (some ⟨g, 0, none⟩) m cap) xs) {i : Nat} (hi : i < xs.length) (x : Int) : HpB (w.setCell ⟨g, i, none⟩ (.int .i64 x)) B b (.slice (some ⟨g, 0, none⟩) m cap) (xs.set i x) := by
  obtain ⟨g', cap', hv, hBg, _, _, _, _, _, hs⟩ := own_cells h.row (by omega)
  injection hv with h1 h2 h3
  injection h1 with h1
  injection h1 with h1
  subst h1 h3
  have := hs i hi x
  exact ⟨h.box.far (by have := h.lt; simp; omega) _, by rw [List.length_set]; exact this, h.lt⟩
end Go.Proofs.Ytdodhbfplglbkaa
