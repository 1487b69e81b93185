/- The program's Text, Bits, Index and Row. -/
import Derived.Test.YthchemgkfjmhjaaOnes
namespace Go.Proofs.Ythchemgkfjmhjaa
open Go.RowKit

/-- A bit's digit. -/
def dig (b : Bool) : UInt8 := if b then 49 else 48
/-- A row as text. -/
def textL (bs : List Bool) : List UInt8 := bs.map dig

theorem make_bytes (n : Nat) (h : n ≤ 281474976710656) (wx : World) : (Instr.makeSlice 54 (.int .i64 (n : Int)) (.int .i64 (n : Int))).run Try.prog wx = .ok (.slice (some ⟨wx.heap.size, 0, none⟩) n n) (wx.alloc (.cells (madeCells #[Value.int .u8 0] n) 5)) := by
  obtain ⟨i0, hi0, hz0, hz1, hz2⟩ := info_parts u8_info
  have := run_make (P := Try.prog) wx 54 5 i0 (.int .u8 0) Try.underlying54 hi0 hz0 .i64 .i64 n n (by omega) (by omega) (by rw [hz2]; omega) (by omega)
  rw [hz1] at this
  simpa [Value.cells] using this
theorem made_bytes (w : World) (n : Nat) (h : n ≤ maxLen) : (w.alloc (.cells (madeCells #[Value.int .u8 0] n) 5)).ownsRow w.heap.size 5 1 (.slice (some ⟨w.heap.size, 0, none⟩) n n) n (u8s ((List.range n).map fun _ => 0)) := by
  have := World.ownsRow_lit (base := w.heap.size) (e := 5) (size := 1) w (madeCells #[Value.int .u8 0] n) n (Nat.le_refl _) h (by rw [size_madeCells]; omega)
  rw [toList_madeCells_one] at this
  have e : u8s ((List.range n).map fun _ => 0) = List.replicate n (Value.int .u8 0) := by
    apply List.ext_getElem (by simp)
    intro i h1 h2
    simp
  rw [e]; exact this

/-- The first k digits of a row, then zero bytes. -/
def tpart (bs : List Bool) (k i : Nat) : UInt8 := if i < k then dig (bit bs i) else 0
theorem tpart_step (bs : List Bool) (k i : Nat) : (if i = k then dig (bit bs k) else tpart bs k i) = tpart bs (k + 1) i := by
  unfold tpart
  by_cases h : i = k
  · subst h; rw [if_pos rfl, if_pos (by omega)]
  · rw [if_neg h]
    by_cases h2 : i < k
    · rw [if_pos h2, if_pos (by omega)]
    · rw [if_neg h2, if_neg (by omega)]
theorem text_of (bs : List Bool) : (List.range bs.length).map (tpart bs bs.length) = textL bs := by
  apply List.ext_getElem (by simp [textL])
  intro i h1 h2
  have h3 : i < bs.length := by simpa using h1
  simp [textL, tpart, h3, bit, List.getD]

/-- A made row of bytes (perhaps of none) as a string. -/
theorem made_string {w : World} {B g n : Nat} {l : List UInt8} (h : w.ownsRow B 5 1 (.slice (some ⟨g, 0, none⟩) n n) n (u8s l)) : (convert 54 9 (.slice (some ⟨g, 0, none⟩) n n)).run Try.prog w = .ok (.string ⟨l.toArray⟩) w := by
  have hl : l.length = n := by simpa using h.1
  subst hl
  exact run_convert_bytes_back w 54 9 5 ⟨g, 0, none⟩ l.length l Try.underlying54 Try.underlying5 Try.underlying9
    (fun j hj => h.cells (g := g) rfl j _ (by simp [hj]))

theorem Text_bad (w : World) (v : Value) (bs : List Bool) (h : Row w v (bls bs)) (hn : 16384 < bs.length) :
    Calls Try.prog 12 #[v] w fun e w' => e = .returned (.tuple #[.string (strOf []), .int .i64 2]) ∧ w = w' := by
  have hlen := h.len
  rw [List.length_map] at hlen
  unfold maxLen at hlen
  obtain ⟨A, c, rfl, h1, h2, h3⟩ := h
  rw [List.length_map]
  clear h1 h2 h3
  go_enter Try.func12, Try.ntmps12
  go_wp2
  go_ret2
  exact ⟨rfl, rfl⟩

set_option maxHeartbeats 1000000 in
set_option maxRecDepth 100000 in
theorem Text_ok (w : World) (v : Value) (bs : List Bool) (h : Row w v (bls bs)) (hn : bs.length ≤ 16384) :
    Calls Try.prog 12 #[v] w fun e w' => e = .returned (.tuple #[.string (strOf (textL bs)), .int .i64 0]) ∧ Below w.heap.size w w' := by
  obtain ⟨A, c, rfl, h1, h2, h3⟩ := h
  rw [List.length_map]
  have HC := Lib.hid h3
  have htx := text_of bs
  generalize hN : bs.length = N at *
  have hmk := fun wx => make_bytes N (by omega) wx
  have HMD := Lib.hid (made_bytes w N (by unfold maxLen; omega))
  have HN := Lib.hid hN
  have HTX := Lib.hid htx
  clear h3 hN htx h1 h2
  go_enter Try.func12, Try.ntmps12
  go_wp2
  go_loopw [15] (fun i wr => ∃ k : Nat, k ≤ N ∧ i = .int .i64 k ∧ Below w.heap.size w wr ∧ wr.ownsRow w.heap.size 5 1 (.slice (some ⟨w.heap.size, 0, none⟩) N N) N (u8s ((List.range N).map (tpart bs k)))) (fun i _ => N - (intOf i).toNat)
  case atStart =>
    refine ⟨0, by omega, rfl, (Below.refl _ _).alloc (Nat.le_refl _) _, ?_⟩
    rw [show (List.range N).map (tpart bs 0) = (List.range N).map fun _ => 0 from List.map_congr_left fun i _ => by unfold tpart; rw [if_neg (by omega)]]
    exact HMD.out
  case round =>
    obtain ⟨k, hk, rfl, hbw, how⟩ := hrel
    by_cases hlt : k < N
    · obtain ⟨b, off, rfl, hb, hcb⟩ := (HC.out.below hbw).bit k (by rw [HN.out]; exact hlt)
      have hgb : ∀ u, (wr.setCell ⟨w.heap.size, k, none⟩ u).cell? ⟨b, off + k, none⟩ = wr.cell? ⟨b, off + k, none⟩ → True := fun _ _ => trivial
      have hcell : wr.cell? ⟨w.heap.size, k, none⟩ = some (.int .u8 ((((List.range N).map (tpart bs k)).getD k 0).toNat : Int)) := by
        rw [how.cellAt k (by omega)]
        simp [List.getD, hlt]
      have hfr := how.frozenAt k
      have hst1 := (how.stored k (.int .u8 ((dig (bit bs k)).toNat : Int))).1
      have hst0 := (how.stored k (.int .u8 48)).1
      have hst2 := ((how.stored k (.int .u8 48)).1.stored k (.int .u8 ((dig (bit bs k)).toNat : Int))).1
      rw [List.set_set] at hst2
      rw [map_set N k (tpart bs k) (fun b : UInt8 => Value.int .u8 (b.toNat : Int)) (dig (bit bs k)) hlt, show (fun j => if j = k then dig (bit bs k) else tpart bs k j) = tpart bs (k + 1) from funext (tpart_step bs k)] at hst1 hst2
      have hfr0 := hst0.frozenAt k
      have hcell0 : (wr.setCell ⟨w.heap.size, k, none⟩ (.int .u8 48)).cell? ⟨w.heap.size, k, none⟩ = some (.int .u8 48) := by
        rw [hst0.cellAt k (by omega), List.getElem?_set]
        simp [hlt]
      generalize (((List.range N).map (tpart bs k)).getD k 0).toNat = y at hcell
      have HST1 := Lib.hid hst1
      have HST2 := Lib.hid hst2
      have HBW := Lib.hid hbw
      clear hst0 hst1 hst2 hbw how hgb
      cases hbit : bit bs k
      · rw [hbit] at hcb HST1
        have HST1 : Hid _ := HST1
        go_wp2
        go_roundw
        case rel => exact ⟨k + 1, by omega, by go_num, HBW.out.setCell (Nat.le_refl _) _, HST1.out⟩
        case measure => simp [intOf]; omega
      · rw [hbit] at hcb HST2
        go_wp2
        go_roundw
        case rel => exact ⟨k + 1, by omega, by go_num, (HBW.out.setCell (Nat.le_refl _) _).setCell (Nat.le_refl _) _, HST2.out⟩
        case measure => simp [intOf]; omega
    · have : k = N := by omega
      subst this
      have hcv := made_string how
      rw [HTX.out] at hcv
      have HBW := Lib.hid hbw
      clear how hbw
      go_wp2
      go_ret2
      exact ⟨rfl, HBW.out⟩
end Go.Proofs.Ythchemgkfjmhjaa
