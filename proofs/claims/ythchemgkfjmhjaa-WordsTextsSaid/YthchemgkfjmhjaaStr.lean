/- Strings, bytes and places in a text, and boxes of the call's own: the words that the program's and the document's numbers share. Nothing here speaks of a function of the program. -/
import Derived.Test.YthchemgkfjmhjaaGroup
import Derived.Test.YthchemgkfjmhjaaDigit
import Derived.Test.YthchemgkfjmhjaaGet
import Derived.Laws.IdiomStrings
namespace Go.Proofs.Ythchemgkfjmhjaa
open Go.RowKit

theorem u8_info : (Try.prog.info? 5).map (fun i => (i.zero, i.size, i.bytes)) = some (some (.int .u8 0), 1, 1) := by kernel_rfl
abbrev u8s (l : List UInt8) : List Value := l.map fun b => Value.int .u8 (b.toNat : Int)
theorem u8s_one (l : List UInt8) : ∀ u ∈ u8s l, u.oneCell' = true := by
  intro u hu
  obtain ⟨z, _, rfl⟩ := List.mem_map.1 hu
  rfl
theorem add_none (b off k : Nat) : (⟨b, off, none⟩ : Addr).add k = ⟨b, off + k, none⟩ := by
  unfold Addr.add; split <;> simp_all
theorem reads_one (w : World) (x : Value) (t : TypeId) : Reads (w.alloc (.cells #[x] t)) (w.heap.size + 1) 1 (some ⟨w.heap.size, 0, none⟩) 1 [x] := by
  refine ⟨rfl, fun _ => ⟨_, rfl, by simp, fun j u hu => ?_⟩⟩
  cases j with
  | zero =>
    cases hu
    rw [add_none, cell_of_row _ _ _ #[x] t (0, 0) (heap_alloc_new w _)]; rfl
  | succ j => simp at hu
theorem bt {B : Nat} {a b c : World} (h1 : Below B a b) (hB : B ≤ a.heap.size) (h2 : Below b.heap.size b c) : Below B a c := h1.trans (h2.mono (Nat.le_trans hB h1.size))

/-- A row of bytes of the call's own, made a string. -/
theorem own_string {w : World} {B n : Nat} {v : Value} {l : List UInt8} (h : w.ownsRow B 5 1 v n (u8s l)) (hn : 0 < n) :
    ∃ g cap, v = .slice (some ⟨g, 0, none⟩) n cap ∧ (convert 54 9 (.slice (some ⟨g, 0, none⟩) n cap)).run Try.prog w = .ok (.string ⟨l.toArray⟩) w := by
  have hl : l.length = n := by simpa using h.1
  rcases h.2 with ⟨_, h0⟩ | ⟨g, cap, cur, rfl, hb, hg, _⟩
  · omega
  · refine ⟨g, cap, rfl, ?_⟩
    subst hl
    exact run_convert_bytes_back w 54 9 5 ⟨g, 0, none⟩ cap l Try.underlying54 Try.underlying5 Try.underlying9
      (fun j hj => h.cells (g := g) rfl j _ (by simp [hj]))

theorem own_snoc {w : World} {B n : Nat} {v : Value} {l : List UInt8} {b : UInt8} {x : Int} (h : w.ownsRow B 5 1 v n (u8s l ++ [.int .u8 x])) (hb : ((b.toNat : Nat) : Int) = x) : w.ownsRow B 5 1 v n (u8s (l ++ [b])) := by
  subst hb; simpa using h
theorem snoc_last {l gs : List UInt8} {k : Nat} (h : l ++ groups k = gs) (hk : k < 128) : l ++ [byteOf k] = gs := by rw [← h, groups_one hk]

def strOf (l : List UInt8) : ByteArray := ⟨l.toArray⟩

theorem strOf_append (a b : List UInt8) : strOf a ++ strOf b = strOf (a ++ b) := by
  unfold strOf
  apply ByteArray.ext
  simp
theorem strOf_size (a : List UInt8) : (strOf a).size = a.length := by unfold strOf; simp [ByteArray.size]

theorem bytes_ne {s : ByteArray} (h : s.size ≠ 0) : s.toList.isEmpty = false := by
  rw [ByteArray.toList_eq]
  rcases s with ⟨⟨l⟩⟩
  cases l with
  | nil => exact absurd rfl h
  | cons a l => rfl


def digAt (s : ByteArray) (k : Nat) : Bool := if h : k < s.size then isDig s[k] else false
theorem digAt_lt {s : ByteArray} {k : Nat} (h : k < s.size) : digAt s k = isDig s[k] := dif_pos h
theorem digAt_ge {s : ByteArray} {k : Nat} (h : ¬ k < s.size) : digAt s k = false := dif_neg h

theorem data_len (s : ByteArray) : s.data.toList.length = s.size := by rw [Array.length_toList]; rfl
/-- What stands in a text from a place on. -/
def from_ (s : ByteArray) (a : Nat) : List UInt8 := s.data.toList.drop a
theorem from_get {s : ByteArray} {a j : Nat} (h : a + j < s.size) : (from_ s a)[j]? = some s[a + j] := by
  unfold from_
  rw [List.getElem?_drop]
  have h2 : a + j < s.data.toList.length := by rw [data_len]; exact h
  rw [List.getElem?_eq_getElem h2]
  rfl
theorem from_none {s : ByteArray} {a j : Nat} (h : ¬ a + j < s.size) : (from_ s a)[j]? = none := by
  unfold from_
  rw [List.getElem?_drop, List.getElem?_eq_none]
  rw [data_len]; omega
theorem from_len (s : ByteArray) (a : Nat) : (from_ s a).length = s.size - a := by unfold from_; rw [List.length_drop, data_len]

/-- The first j bytes from a on are digits. -/
def DigTo (s : ByteArray) (a j : Nat) : Prop := ∀ i, i < j → digAt s (a + i) = true
theorem digTo_list {s : ByteArray} {a j : Nat} (h : DigTo s a j) : j ≤ (from_ s a).length ∧ ∀ i, i < j → ∀ b, (from_ s a)[i]? = some b → isDig b = true := by
  refine ⟨?_, fun i hi b hb => ?_⟩
  · rw [from_len]
    cases j with
    | zero => omega
    | succ j =>
      have := h j (by omega)
      by_cases hs : a + j < s.size
      · omega
      · rw [digAt_ge hs] at this; cases this
  · have := h i hi
    by_cases hs : a + i < s.size
    · rw [from_get hs] at hb; cases hb; rwa [digAt_lt hs] at this
    · rw [from_none hs] at hb; cases hb
theorem take_next {s : ByteArray} {a j : Nat} (h : a + j < s.size) : (from_ s a).take (j + 1) = (from_ s a).take j ++ [s[a + j]] := by
  have hl : j < (from_ s a).length := by rw [from_len]; omega
  rw [List.take_succ_eq_append_getElem hl]
  have := from_get h
  rw [List.getElem?_eq_getElem hl] at this
  rw [Option.some.inj this]

def NumPost (a : Nat) (o : Option (Nat × Nat)) (e : Ending) : Prop := match o with
  | none => e = .returned (.tuple #[.int .i64 0, .int .i64 0, .bool false])
  | some (v, k) => e = .returned (.tuple #[.int .i64 (v : Int), .int .i64 ((a + k : Nat) : Int), .bool true])
theorem numPost_none {a : Nat} {o : Option (Nat × Nat)} {e : Ending} (h : o = none) (he : e = .returned (.tuple #[.int .i64 0, .int .i64 0, .bool false])) : NumPost a o e := by subst h; exact he
theorem numPost_some {a v k : Nat} {o : Option (Nat × Nat)} {e : Ending} (h : o = some (v, k)) (he : e = .returned (.tuple #[.int .i64 (v : Int), .int .i64 ((a + k : Nat) : Int), .bool true])) : NumPost a o e := by subst h; exact he

theorem numO_first {s : ByteArray} {a : Nat} (h : digAt s a = false) : numO (from_ s a) = none := by
  have hd : digs (from_ s a) = (from_ s a).take 0 := digs_end (Nat.zero_le _) (by omega) (fun b hb => by
    by_cases hs : a + 0 < s.size
    · rw [from_get hs] at hb; cases hb; rw [digAt_lt (k := a) (by omega)] at h; exact h
    · rw [from_none hs] at hb; cases hb)
  unfold numO
  rw [hd, if_pos (by simp)]
theorem numO_zero {s : ByteArray} {a : Nat} (h : a < s.size) (h48 : s[a].toNat = 48) (h2 : digAt s (a + 1) = true) : numO (from_ s a) = none := by
  have hd : isDig s[a] = true := isDig_iff.2 (by omega)
  have hto : DigTo s a 2 := fun i hi => by
    have : i = 0 ∨ i = 1 := by omega
    rcases this with rfl | rfl
    · rw [digAt_lt (k := a + 0) (by omega)]; exact hd
    · exact h2
  obtain ⟨h3, h4⟩ := digTo_list hto
  obtain ⟨r, hr⟩ := take_digs h3 h4
  have hsz : a + 1 < s.size := by
    by_cases hs : a + 1 < s.size
    · exact hs
    · rw [digAt_ge hs] at h2; cases h2
  have e1 : (from_ s a).take 2 = [s[a], s[a + 1]] := by
    rw [take_next (j := 1) hsz, take_next (j := 0) (by omega)]; rfl
  rw [e1] at hr
  unfold numO
  have h48' : s[a] = 48 := by apply UInt8.toNat_inj.1; rw [h48]; rfl
  rw [hr, if_neg (by simp), if_pos ⟨by simp [h48'], by simp⟩]
theorem numO_big {s : ByteArray} {a j : Nat} (h : DigTo s a j) (hv : 2147483647 < dval ((from_ s a).take j)) : numO (from_ s a) = none := by
  obtain ⟨h3, h4⟩ := digTo_list h
  obtain ⟨r, hr⟩ := take_digs h3 h4
  have hm := dval_mono ((from_ s a).take j) r
  rw [← hr] at hm
  unfold numO
  by_cases h1 : digs (from_ s a) = []
  · rw [if_pos h1]
  · rw [if_neg h1]
    split
    · rfl
    · rw [if_pos (by omega)]
theorem numO_good {s : ByteArray} {a j : Nat} (h : DigTo s a j) (hj : 0 < j) (he : digAt s (a + j) = false) (hz : ∀ h : a < s.size, s[a].toNat = 48 → digAt s (a + 1) = false) (hv : dval ((from_ s a).take j) ≤ 2147483647) : numO (from_ s a) = some (dval ((from_ s a).take j), j) := by
  obtain ⟨h3, h4⟩ := digTo_list h
  have hd := digs_end h3 h4 (fun b hb => by
    by_cases hs : a + j < s.size
    · rw [from_get hs] at hb; cases hb; rwa [digAt_lt hs] at he
    · rw [from_none hs] at hb; cases hb)
  have hl : ((from_ s a).take j).length = j := by rw [List.length_take]; omega
  unfold numO
  rw [hd, if_neg (by intro e; rw [e] at hl; simp at hl; omega), if_neg ?_, if_neg (by omega), hl]
  rintro ⟨h5, h6⟩
  rw [hl] at h6
  have h0 : a < s.size := by
    by_cases hs : a < s.size
    · exact hs
    · have := h 0 hj; rw [digAt_ge (by omega)] at this; cases this
  have h7 : (from_ s a).head? = some s[a] := by
    have := from_get (s := s) (a := a) (j := 0) (by omega)
    rw [List.head?_eq_getElem?]; exact this
  rw [List.head?_take, if_neg (by omega), h7] at h5
  have h8 := hz h0 (by rw [Option.some.inj h5]; rfl)
  rw [h 1 h6] at h8; cases h8

theorem isDig_bounds {b : UInt8} (h : isDig b = true) : 48 ≤ (b.toNat : Int) ∧ (b.toNat : Int) ≤ 57 := by have := isDig_iff.1 h; omega


abbrev fault (a c : Int) : Value := .agg #[.int .i64 a, .int .i64 c]

def placeE (s : ByteArray) (a : Int) : Int := if 262144 < s.size then 2 else if a < 0 ∨ (s.size : Int) < a then 1 else 0
theorem placeE_long {s : ByteArray} {a : Int} (h : 262144 < s.size) : placeE s a = 2 := if_pos h
theorem placeE_out {s : ByteArray} {a : Int} (h : ¬ 262144 < s.size) (h' : a < 0 ∨ (s.size : Int) < a) : placeE s a = 1 := by unfold placeE; rw [if_neg h, if_pos h']
theorem placeE_ok {s : ByteArray} {a : Int} (h : ¬ 262144 < s.size) (h' : ¬ (a < 0 ∨ (s.size : Int) < a)) : placeE s a = 0 := by unfold placeE; rw [if_neg h, if_neg h']

/-- A block of the call's own reads as it did behind a callee that turns nothing. -/
theorem keep_box {w w1 : World} {cs : Array Value} {t : TypeId} (hb : Below (w.alloc (.cells cs t)).heap.size (w.alloc (.cells cs t)) w1) (i : Nat) : w1.cell? ⟨w.heap.size, i, none⟩ = cs[i]? ∧ w1.frozen? ⟨w.heap.size, i, none⟩ = false ∧ w.heap.size < w1.heap.size := by
  have h := (Blk.new w t cs).below hb (by simp)
  exact ⟨h.cell i, h.frozen i, by have := hb.size; simp at this; omega⟩
theorem Below.box {w w1 : World} {o : Obj} (hb : Below (w.alloc o).heap.size (w.alloc o) w1) : Below w.heap.size w w1 := ((Below.refl _ _).alloc (Nat.le_refl _) _).trans (hb.mono (by simp))

theorem keep_old {w1 w2 : World} {o : Obj} {b i : Nat} {x : Value} (hb : Below (w1.alloc o).heap.size (w1.alloc o) w2) (hz : b < w1.heap.size) (hc : w1.cell? ⟨b, i, none⟩ = some x) (hf : w1.frozen? ⟨b, i, none⟩ = false) : w2.cell? ⟨b, i, none⟩ = some x ∧ w2.frozen? ⟨b, i, none⟩ = false := by
  have hb' := Below.box hb
  exact ⟨(hb'.cell (p := ⟨b, i, none⟩) hz).trans hc, (hb'.frozen (p := ⟨b, i, none⟩) hz).trans hf⟩

/-- What Number and Get answer, o telling what begins at the place. -/
def readV (s : ByteArray) (a : Int) (o : Option (Nat × Nat)) : Value :=
  if placeE s a ≠ 0 then .tuple #[.int .i64 0, .int .i64 0, fault 0 (placeE s a)] else
  match o with
  | none => .tuple #[.int .i64 0, .int .i64 0, fault a 20]
  | some (v, k) => .tuple #[.int .i64 (v : Int), .int .i64 (a + (k : Int)), fault 0 0]
theorem readV_bad {s : ByteArray} {a : Int} {o : Option (Nat × Nat)} (h : placeE s a ≠ 0) : readV s a o = .tuple #[.int .i64 0, .int .i64 0, fault 0 (placeE s a)] := if_pos h
theorem readV_none {s : ByteArray} {a : Int} (h : placeE s a = 0) : readV s a none = .tuple #[.int .i64 0, .int .i64 0, fault a 20] := by unfold readV; rw [if_neg (by simp [h])]
theorem readV_some {s : ByteArray} {a : Int} {v k : Nat} (h : placeE s a = 0) : readV s a (some (v, k)) = .tuple #[.int .i64 (v : Int), .int .i64 (a + (k : Int)), fault 0 0] := by unfold readV; rw [if_neg (by simp [h])]
theorem placeE_zero {s : ByteArray} {a : Int} (h : placeE s a = 0) : s.size ≤ 262144 ∧ 0 ≤ a ∧ a ≤ s.size := by
  by_cases h1 : 262144 < s.size
  · rw [placeE_long h1] at h; cases h
  · by_cases h2 : a < 0 ∨ (s.size : Int) < a
    · rw [placeE_out h1 h2] at h; cases h
    · omega

end Go.Proofs.Ythchemgkfjmhjaa
