/- Ascii: latches, gates. -/
import Derived.Test.YtkkolefhfmlhfabDoorAscF
namespace Go.Proofs.YtkkolefhfmlhfabDoor
open Go.RowKit

/-- A block known whole as things of three ints. -/
def TrP (t : TypeId) (w : World) (g : Nat) (L : List Tri) : Prop := Blk w g t (L.flatMap encT).toArray
section
variable {t : TypeId}
theorem TrP.cell {w : World} {g : Nat} {L : List Tri} (h : TrP t w g L) {i : Nat} {p : Tri} (hx : L[i]? = some p) : w.cell? ⟨g, i * 3, none⟩ = some (.int .i64 p.1) ∧ w.cell? ⟨g, i * 3 + 1, none⟩ = some (.int .i64 p.2.1) ∧ w.cell? ⟨g, i * 3 + 2, none⟩ = some (.int .i64 p.2.2) := by
  have h0 := flat_get (enc := encT) (k := 3) lenT L i p hx 0 (by omega)
  have h1 := flat_get (enc := encT) (k := 3) lenT L i p hx 1 (by omega)
  have h2 := flat_get (enc := encT) (k := 3) lenT L i p hx 2 (by omega)
  rw [Blk.cell h, Blk.cell h, Blk.cell h]
  simp only [Nat.add_zero] at h0
  exact ⟨by rw [List.getElem?_toArray, h0]; rfl, by rw [List.getElem?_toArray, h1]; rfl, by rw [List.getElem?_toArray, h2]; rfl⟩
theorem flat_setT {L : List Tri} {i : Nat} {p : Tri} (h : i < L.length) : (((L.flatMap encT).set (i * 3) (.int .i64 p.1)).set (i * 3 + 1) (.int .i64 p.2.1)).set (i * 3 + 2) (.int .i64 p.2.2) = (L.set i p).flatMap encT := by
  induction L generalizing i with
  | nil => simp at h
  | cons a r ih =>
    cases i with
    | zero => rfl
    | succ i =>
      have := ih (i := i) (by simpa using h)
      rw [List.set_cons_succ, List.flatMap_cons, List.flatMap_cons, ← this]
      obtain ⟨a1, a2, a3⟩ := a
      simp [encT, Nat.succ_mul]
theorem TrP.set_ {w : World} {g : Nat} {L : List Tri} (h : TrP t w g L) {i : Nat} (hi : i < L.length) (p : Tri) : TrP t (((w.setCell ⟨g, i * 3, none⟩ (.int .i64 p.1)).setCell ⟨g, i * 3 + 1, none⟩ (.int .i64 p.2.1)).setCell ⟨g, i * 3 + 2, none⟩ (.int .i64 p.2.2)) g (L.set i p) := by
  have := Blk.set_ (Blk.set_ (Blk.set_ h (i * 3) (.int .i64 p.1)) (i * 3 + 1) (.int .i64 p.2.1)) (i * 3 + 2) (.int .i64 p.2.2)
  unfold TrP
  rw [← flat_setT hi]
  simpa using this
theorem TrP.set2 {w : World} {g : Nat} {L : List Tri} (h : TrP t w g L) {i : Nat} {x y z : Int} (hi : L[i]? = some (x, y, z)) (u : Int) : TrP t (w.setCell ⟨g, i * 3 + 2, none⟩ (.int .i64 u)) g (L.set i (x, y, u)) := by
  have h1 := Blk.set_ h (i * 3 + 2) (.int .i64 u)
  have hl := (List.getElem?_eq_some_iff.1 hi).1
  have e := flat_setT (p := (x, y, u)) hl
  have h0 := flat_get (enc := encT) (k := 3) lenT L i _ hi 0 (by omega)
  have h2 := flat_get (enc := encT) (k := 3) lenT L i _ hi 1 (by omega)
  simp only [Nat.add_zero] at h0
  have e0 : (L.flatMap encT).set (i * 3) (.int .i64 x) = L.flatMap encT := by
    apply List.ext_getElem?
    intro j
    rw [List.getElem?_set]
    split
    · rename_i hj
      subst hj
      split
      · exact h0.symm
      · rename_i hj; rw [List.getElem?_eq_none (by omega)]
    · rfl
  have e1 : (L.flatMap encT).set (i * 3 + 1) (.int .i64 y) = L.flatMap encT := by
    apply List.ext_getElem?
    intro j
    rw [List.getElem?_set]
    split
    · rename_i hj
      subst hj
      split
      · exact h2.symm
      · rename_i hj; rw [List.getElem?_eq_none (by omega)]
    · rfl
  simp only at e
  rw [e0, e1] at e
  unfold TrP
  rw [← e]
  simpa using h1
theorem TrP.below {w w' : World} {g : Nat} {L : List Tri} (h : TrP t w g L) (hb : Below w.heap.size w w') : TrP t w' g L := Blk.below h hb (Blk.lt h)
theorem TrP.own {w : World} {B g : Nat} {L : List Tri} (h : TrP t w g L) (hB : B ≤ g) (hm : L.length ≤ maxLen) : w.ownsRow B t 3 (.slice (some ⟨g, 0, none⟩) L.length L.length) L.length (L.flatMap encT) := by
  have hl := flat_len (enc := encT) (k := 3) lenT L
  exact ⟨hl, .inr ⟨g, L.length, _, rfl, hB, h, Nat.le_refl _, hm, by simpa using hl, by rw [List.take_of_length_le (by simp [hl])]⟩⟩
theorem made_tris (n : Nat) : madeCells #[Value.int .i64 0, Value.int .i64 0, Value.int .i64 0] (n * 3) = ((List.replicate n ((0 : Int), (0 : Int), (0 : Int))).flatMap encT).toArray := by
  apply Array.ext_getElem?
  intro j
  rw [List.getElem?_toArray (xs := List.flatMap _ _)]
  by_cases hj : j < n * 3
  · have hx : (List.replicate n ((0 : Int), (0 : Int), (0 : Int)))[j / 3]? = some (0, 0, 0) := by rw [List.getElem?_replicate, if_pos (by omega)]
    have h0 := flat_get (enc := encT) (k := 3) lenT _ (j / 3) (0, 0, 0) hx (j % 3) (by omega)
    rw [show j / 3 * 3 + j % 3 = j by omega] at h0
    rw [h0]
    have h2 : j % 3 = 0 ∨ j % 3 = 1 ∨ j % 3 = 2 := by omega
    rcases h2 with h2 | h2 | h2 <;> simp [madeCells, hj, h2, encT]
  · have hl : ((List.replicate n ((0 : Int), (0 : Int), (0 : Int))).flatMap encT).length = n * 3 := by rw [flat_len (enc := encT) (k := 3) lenT]; simp
    rw [List.getElem?_eq_none (l := List.flatMap _ _) (by omega), Array.getElem?_eq_none (by rw [size_madeCells]; omega)]
theorem new_tris (w : World) (n : Nat) : TrP t (w.alloc (.cells (madeCells #[Value.int .i64 0, Value.int .i64 0, Value.int .i64 0] (n * 3)) t)) w.heap.size (List.replicate n (0, 0, 0)) := by
  unfold TrP; rw [← made_tris]; exact Blk.new _ _ _
end
theorem lat_infoA : (Tryd.prog.info? 61).map (fun i => (i.zero, i.size, i.bytes)) = some (some (.agg #[.int .i64 0, .int .i64 0, .int .i64 0]), 3, 24) := by kernel_rfl
theorem gat_infoA : (Tryd.prog.info? 84).map (fun i => (i.zero, i.size, i.bytes)) = some (some (.agg #[.int .i64 0, .int .i64 0, .int .i64 0]), 3, 24) := by kernel_rfl
theorem make_latA (n : Nat) (h : n ≤ 1000000) (wx : World) : (Instr.makeSlice 40 (.int .i64 (n : Int)) (.int .i64 (n : Int))).run Tryd.prog wx = .ok (.slice (some ⟨wx.heap.size, 0, none⟩) n n) (wx.alloc (.cells (madeCells #[Value.int .i64 0, Value.int .i64 0, Value.int .i64 0] (n * 3)) 61)) := by
  obtain ⟨i0, hi0, hz0, hz1, hz2⟩ := info_of' lat_infoA
  have := run_make (P := Tryd.prog) wx 40 61 i0 (.agg #[.int .i64 0, .int .i64 0, .int .i64 0]) Tryd.underlying40 hi0 hz0 .i64 .i64 n n (by omega) (by omega) (by rw [hz2]; omega) (by omega)
  rw [hz1] at this
  simpa [Value.cells] using this
theorem make_gatA (n : Nat) (h : n ≤ 1000000) (wx : World) : (Instr.makeSlice 42 (.int .i64 (n : Int)) (.int .i64 (n : Int))).run Tryd.prog wx = .ok (.slice (some ⟨wx.heap.size, 0, none⟩) n n) (wx.alloc (.cells (madeCells #[Value.int .i64 0, Value.int .i64 0, Value.int .i64 0] (n * 3)) 84)) := by
  obtain ⟨i0, hi0, hz0, hz1, hz2⟩ := info_of' gat_infoA
  have := run_make (P := Tryd.prog) wx 42 84 i0 (.agg #[.int .i64 0, .int .i64 0, .int .i64 0]) Tryd.underlying42 hi0 hz0 .i64 .i64 n n (by omega) (by omega) (by rw [hz2]; omega) (by omega)
  rw [hz1] at this
  simpa [Value.cells] using this
end Go.Proofs.YtkkolefhfmlhfabDoor
