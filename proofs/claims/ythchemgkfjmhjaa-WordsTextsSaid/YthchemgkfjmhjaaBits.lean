/- The program's Bits, Index and Row. -/
import Derived.Test.YthchemgkfjmhjaaText
namespace Go.Proofs.Ythchemgkfjmhjaa
open Go.RowKit

/-- The first k bytes are digits 0 and 1. -/
def GoodTo (s : ByteArray) (k : Nat) : Prop := ∀ i (h : i < s.size), i < k → s[i].toNat = 48 ∨ s[i].toNat = 49
/-- The first byte that is neither. -/
def BadAt (s : ByteArray) (i : Nat) : Prop := GoodTo s i ∧ ∃ h : i < s.size, ¬ (s[i].toNat = 48 ∨ s[i].toNat = 49)
theorem good_or (s : ByteArray) : ∀ k, k ≤ s.size → GoodTo s k ∨ ∃ i, i < k ∧ BadAt s i := by
  intro k
  induction k with
  | zero => intro _; exact .inl fun i h hi => by omega
  | succ k ih =>
    intro hk
    rcases ih (by omega) with h | ⟨i, hi, hb⟩
    · by_cases hg : s[k].toNat = 48 ∨ s[k].toNat = 49
      · left
        intro i h1 h2
        by_cases e : i = k
        · subst e; exact hg
        · exact h i h1 (by omega)
      · exact .inr ⟨k, by omega, h, by omega, hg⟩
    · exact .inr ⟨i, by omega, hb⟩
def sbit (s : ByteArray) (i : Nat) : Bool := (s.data.toList.getD i 0).toNat == 49
theorem sbit_at {s : ByteArray} {i : Nat} (h : i < s.size) : sbit s i = (s[i].toNat == 49) := by
  have h2 : i < s.data.toList.length := by rw [data_len]; exact h
  have : s.data.toList.getD i 0 = s[i] := by rw [List.getD, List.getElem?_eq_getElem h2]; rfl
  unfold sbit; rw [this]

theorem Bits_long (s : ByteArray) (w : World) (hs : s.size ≤ 9223372036854775807) (hn : 16384 < s.size) :
    Calls Try.prog 19 #[.string s] w fun e w' => e = .returned (.tuple #[.slice none 0 0, fault 0 2]) ∧ Below w.heap.size w w' := by
  go_enter Try.func19, Try.ntmps19
  go_wp2
  refine bodyPost_ret (v := .tuple #[.slice none 0 0, fault 0 2]) (by simp [results, Try.results19, go_sem]) rfl ⟨rfl, (Below.refl _ _).alloc (Nat.le_refl _) _⟩

/-- The first k bits that a text tells. -/
def bpart (s : ByteArray) (k i : Nat) : Bool := if i < k then sbit s i else false
theorem bpart_step (s : ByteArray) (k i : Nat) : (if i = k then sbit s k else bpart s k i) = bpart s (k + 1) i := by
  unfold bpart
  by_cases h : i = k
  · subst h; rw [if_pos rfl, if_pos (by omega)]
  · rw [if_neg h]
    by_cases h2 : i < k
    · rw [if_pos h2, if_pos (by omega)]
    · rw [if_neg h2, if_neg (by omega)]

/-- What Bits answers: o is the first byte that is no digit, if there is one. -/
def BitsPost (s : ByteArray) (w : World) (o : Option Nat) (e : Ending) (w' : World) : Prop := match o with
  | some i => e = .returned (.tuple #[.slice none 0 0, fault (i : Int) 21]) ∧ Below w.heap.size w w'
  | none => ∃ v', e = .returned (.tuple #[v', fault 0 0]) ∧ Below w.heap.size w w' ∧ w'.ownsRow w.heap.size 4 1 v' s.size (bls (mkb s.size (sbit s)))
def FirstO (s : ByteArray) (o : Option Nat) : Prop := match o with
  | some i => BadAt s i
  | none => GoodTo s s.size
theorem first_none {s : ByteArray} {o : Option Nat} (h : FirstO s o) (hg : GoodTo s s.size) : o = none := by
  cases o with
  | none => rfl
  | some i => obtain ⟨_, h1, h2⟩ := h; exact absurd (hg i h1 h1) h2
theorem first_some {s : ByteArray} {o : Option Nat} {k : Nat} (h : FirstO s o) (hg : GoodTo s k) (hk : k < s.size) (hb : ¬ (s[k].toNat = 48 ∨ s[k].toNat = 49)) : o = some k := by
  cases o with
  | none => exact absurd (h k hk hk) hb
  | some i =>
    obtain ⟨h0, h1, h2⟩ := h
    have a1 : ¬ i < k := fun h => h2 (hg i h1 h)
    have a2 : ¬ k < i := fun h => hb (h0 k hk h)
    rw [show i = k by omega]
theorem first_exists (s : ByteArray) : ∃ o, FirstO s o := by
  rcases good_or s s.size (Nat.le_refl _) with h | ⟨i, _, h⟩
  · exact ⟨none, h⟩
  · exact ⟨some i, h⟩
theorem GoodTo.next {s : ByteArray} {k : Nat} (h : GoodTo s k) (hk : k < s.size) (hb : s[k].toNat = 48 ∨ s[k].toNat = 49) : GoodTo s (k + 1) := by
  intro i h1 h2
  by_cases e : i = k
  · subst e; exact hb
  · exact h i h1 (by omega)
theorem bitsPost_some {s : ByteArray} {w w' : World} {o : Option Nat} {k : Nat} {e : Ending} (h : o = some k) (he : e = .returned (.tuple #[.slice none 0 0, fault (k : Int) 21])) (hb : Below w.heap.size w w') : BitsPost s w o e w' := by subst h; exact ⟨he, hb⟩
theorem bitsPost_none {s : ByteArray} {w w' : World} {o : Option Nat} {v' : Value} {e : Ending} (h : o = none) (he : e = .returned (.tuple #[v', fault 0 0])) (hb : Below w.heap.size w w') (ho : w'.ownsRow w.heap.size 4 1 v' s.size (bls (mkb s.size (sbit s)))) : BitsPost s w o e w' := by subst h; exact ⟨v', he, hb, ho⟩

theorem own_far {w : World} {B n : Nat} {t : TypeId} {v : Value} {xs : List Value} (h : w.ownsRow B t 1 v n xs) (p : Addr) (u : Value) (hp : ∀ g, v.ownBlock = some g → g ≠ p.block) : (w.setCell p u).ownsRow B t 1 v n xs := by
  refine ⟨h.1, ?_⟩
  rcases h.2 with h2 | ⟨g, cap, cur, hv, hB, hg, h3⟩
  · exact .inl h2
  · exact .inr ⟨g, cap, cur, hv, hB, (Below.heap_setCell w p u g (hp g (by rw [hv]; rfl))).trans hg, h3⟩

set_option maxHeartbeats 2000000 in
set_option maxRecDepth 100000 in
theorem Bits_any (s : ByteArray) (w : World) (o : Option Nat) (hf : FirstO s o) (hn : s.size ≤ 16384) :
    Calls Try.prog 19 #[.string s] w (BitsPost s w o) := by
  have hmk := fun wx => make_bools s.size (by omega) wx
  have HF := Lib.hid hf
  have HMD := Lib.hid (made_bools (w.alloc (.cells #[Value.int .i64 0, Value.int .i64 0] 37)) s.size (by unfold maxLen; omega))
  clear hf
  go_enter Try.func19, Try.ntmps19
  go_wp2
  go_loopw [15] (fun i wr => ∃ k : Nat, k ≤ s.size ∧ i = .int .i64 k ∧ GoodTo s k ∧ Below w.heap.size w wr ∧ w.heap.size + 1 < wr.heap.size ∧ wr.cell? ⟨w.heap.size, 0, none⟩ = some (.int .i64 0) ∧ wr.cell? ⟨w.heap.size, 1, none⟩ = some (.int .i64 0) ∧ wr.frozen? ⟨w.heap.size, 0, none⟩ = false ∧ wr.frozen? ⟨w.heap.size, 1, none⟩ = false ∧
      wr.ownsRow (w.heap.size + 1) 4 1 (.slice (some ⟨w.heap.size + 1, 0, none⟩) s.size s.size) s.size (bls (mkb s.size (bpart s k)))) (fun i _ => s.size - (intOf i).toNat)
  case atStart =>
    have hbk := (Blk.new w 37 #[Value.int .i64 0, Value.int .i64 0]).alloc (.cells (madeCells #[Value.bool false] s.size) 4)
    refine ⟨0, by omega, rfl, fun i _ hi => by omega, ((Below.refl _ _).alloc (Nat.le_refl _) _).alloc (by simp) _, by simp, hbk.cell 0, hbk.cell 1, hbk.frozen 0, hbk.frozen 1, ?_⟩
    rw [show mkb s.size (bpart s 0) = mkb s.size fun _ => false from mkb_congr fun i _ => by unfold bpart; rw [if_neg (by omega)]]
    simpa using HMD.out
  case round =>
    obtain ⟨k, hk, rfl, hgd, hbw, hsz, hc0, hc1, hf0, hf1, how⟩ := hrel
    have HGD := Lib.hid hgd
    have HBW := Lib.hid hbw
    have HSZ := Lib.hid hsz
    by_cases hlt : k < s.size
    · have hcell : wr.cell? ⟨w.heap.size + 1, k, none⟩ = some (.bool (bit (mkb s.size (bpart s k)) k)) := by
        rw [how.cellAt k (by omega)]
        simp [bit, List.getD, hlt]
      have hfr := how.frozenAt k
      have hst := (how.stored k (.bool (sbit s k))).1
      rw [map_set s.size k (bpart s k) Value.bool (sbit s k) hlt, show (fun j => if j = k then sbit s k else bpart s k j) = bpart s (k + 1) from funext (bpart_step s k), sbit_at hlt] at hst
      generalize bit (mkb s.size (bpart s k)) k = y at hcell
      have hgn := hgd.next hlt
      have hfs := first_some HF.out hgd hlt
      have hb255 : s[k].toNat ≤ 255 := by have := UInt8.toNat_lt s[k]; omega
      generalize hc : s[k].toNat = c at hst hgn hfs hb255
      have HC := Lib.hid hc
      clear hgd hbw hsz how
      by_cases hc48 : c = 48
      · have q1 : ((c : Int) != 48) = false := by rw [hc48]; rfl
        have q2 : ((c : Int) == 49) = false := by rw [hc48]; rfl
        have q3 : (c == 49) = false := by rw [hc48]; rfl
        rw [q3] at hst
        have HST := Lib.hid hst
        have HGN := Lib.hid (hgn (.inl hc48))
        have hk0 := World.cell?_setCell_other wr ⟨w.heap.size + 1, k, none⟩ ⟨w.heap.size, 0, none⟩ (.bool false) (by simp)
        have hk1 := World.cell?_setCell_other wr ⟨w.heap.size + 1, k, none⟩ ⟨w.heap.size, 1, none⟩ (.bool false) (by simp)
        have HK := Lib.hid (And.intro (hk0.trans hc0) (hk1.trans hc1))
        have HF0 := Lib.hid (And.intro hf0 hf1)
        clear hst hgn hfs hc48 hk0 hk1
        go_wp2
        go_roundw
        case rel => exact ⟨k + 1, by omega, by go_num, HGN.out, HBW.out.setCell (by simp) _, by simpa [World.setCell] using HSZ.out, HK.out.1, HK.out.2, by simpa using HF0.out.1, by simpa using HF0.out.2, HST.out⟩
        case measure => simp [intOf]; omega
      · by_cases hc49 : c = 49
        · have q1 : ((c : Int) != 48) = true := by rw [hc49]; rfl
          have q1' : ((c : Int) != 49) = false := by rw [hc49]; rfl
          have q2 : ((c : Int) == 49) = true := by rw [hc49]; rfl
          have q3 : (c == 49) = true := by rw [hc49]; rfl
          rw [q3] at hst
          have HST := Lib.hid hst
          have HGN := Lib.hid (hgn (.inr hc49))
          have hk0 := World.cell?_setCell_other wr ⟨w.heap.size + 1, k, none⟩ ⟨w.heap.size, 0, none⟩ (.bool true) (by simp)
          have hk1 := World.cell?_setCell_other wr ⟨w.heap.size + 1, k, none⟩ ⟨w.heap.size, 1, none⟩ (.bool true) (by simp)
          have HK := Lib.hid (And.intro (hk0.trans hc0) (hk1.trans hc1))
          have HF0 := Lib.hid (And.intro hf0 hf1)
          clear hst hgn hfs hc49 hc48 hk0 hk1
          go_wp2
          go_roundw
          case rel => exact ⟨k + 1, by omega, by go_num, HGN.out, HBW.out.setCell (by simp) _, by simpa [World.setCell] using HSZ.out, HK.out.1, HK.out.2, by simpa using HF0.out.1, by simpa using HF0.out.2, HST.out⟩
          case measure => simp [intOf]; omega
        · have q1 : ((c : Int) != 48) = true := by simp; omega
          have q1' : ((c : Int) != 49) = true := by simp; omega
          have HFS := Lib.hid (hfs (by omega))
          clear hst hgn hfs hc49 hc48
          have hz : w.heap.size < wr.heap.size := by have := HSZ.out; omega
          go_wp2
          refine bodyPost_ret (v := .tuple #[.slice none 0 0, fault (k : Int) 21]) (by simp [results, Try.results19, go_sem, hc0, hc1]) rfl ?_
          exact bitsPost_some HFS.out rfl ((HBW.out.setCell (Nat.le_refl _) _).setCell (Nat.le_refl _) _)
    · have : k = s.size := by omega
      subst this
      have HN := Lib.hid (first_none HF.out hgd)
      have HOW := Lib.hid how
      have hz : w.heap.size < wr.heap.size := by omega
      clear hgd hbw hsz how
      go_wp2
      refine bodyPost_ret (v := .tuple #[.slice (some ⟨w.heap.size + 1, 0, none⟩) s.size s.size, fault 0 0]) (by simp [results, Try.results19, go_sem, hc0, hc1]) rfl ?_
      refine bitsPost_none HN.out rfl ((HBW.out.setCell (Nat.le_refl _) _).setCell (Nat.le_refl _) _) ?_
      have e : mkb s.size (bpart s s.size) = mkb s.size (sbit s) := mkb_congr fun i hi => by unfold bpart; rw [if_pos hi]
      rw [← e]
      exact own_mono (own_far (own_far HOW.out ⟨w.heap.size, 0, none⟩ _ (by rintro g hg; cases hg; simp)) ⟨w.heap.size, 1, none⟩ _ (by rintro g hg; cases hg; simp)) (by omega)

theorem Index_bad (w : World) (v : Value) (bs : List Bool) (h : Row w v (bls bs)) (hn : 62 < bs.length) :
    Calls Try.prog 14 #[v] w fun e w' => e = .returned (.tuple #[.int .i64 0, .int .i64 2]) ∧ w = w' := by
  have hlen := h.len
  rw [List.length_map] at hlen
  unfold maxLen at hlen
  obtain ⟨A, c, rfl, h1, h2, h3⟩ := h
  rw [List.length_map]
  clear h1 h2 h3
  go_enter Try.func14, Try.ntmps14
  go_wp2
  go_ret2
  exact ⟨rfl, rfl⟩
theorem Index_ok (w : World) (v : Value) (bs : List Bool) (h : Row w v (bls bs)) (hn : bs.length ≤ 62) :
    Calls Try.prog 14 #[v] w fun e w' => e = .returned (.tuple #[.int .i64 ((nb (bit bs) bs.length : Nat) : Int), .int .i64 0]) ∧ w = w' := by
  obtain ⟨A, c, rfl, h1, h2, h3⟩ := h
  rw [List.length_map]
  have hw := word_any w A c bs h3 (by omega)
  have hlt := nb_lt (bit bs) bs.length
  have hp : 2 ^ bs.length ≤ 2 ^ 62 := Nat.pow_le_pow_right (by omega) hn
  generalize nb (bit bs) bs.length = x at hw hlt ⊢
  have hx : (x : Int) ≤ 4611686018427387904 := by omega
  have HW := Lib.hid hw
  clear h1 h2 h3 hw hlt hp
  go_enter Try.func14, Try.ntmps14
  go_wp2_with (go_at_call 38; refine HW.out.mono ?_; rintro e w' ⟨rfl, rfl⟩)
  go_ret2
  exact ⟨rfl, rfl⟩

/-- No row of n bits has this index. -/
def rowBad (x n : Int) : Prop := n < 0 ∨ 62 < n ∨ x < 0 ∨ 2 ^ n.toNat ≤ x.toNat
theorem Row_ok (x n : Nat) (w : World) (hn : n ≤ 62) (hx : x < 2 ^ n) :
    Calls Try.prog 21 #[.int .i64 (x : Int), .int .i64 n] w fun e w' => ∃ v', e = .returned (.tuple #[v', .int .i64 0]) ∧ Below w.heap.size w w' ∧ w'.ownsRow w.heap.size 4 1 v' n (bls (mkb n fun i => x.testBit i)) := by
  have hp : 2 ^ n ≤ 2 ^ 62 := Nat.pow_le_pow_right (by omega) hn
  have hmk := fun wx => make_bools n (by omega) wx
  have hsp := spread_any (w.alloc (.cells (madeCells #[Value.bool false] n) 4)) w.heap.size w.heap.size n n 0 n n x _ (made_bools w n (by unfold maxLen; omega)) (by omega) (by omega) (by omega) (by omega)
  rw [show mkb n (over (mkb n fun _ => false) x 0 n) = mkb n (fun i => x.testBit i) from mkb_congr fun i hi => by unfold over; rw [if_pos (by omega)]; rfl] at hsp
  have hdv : (x : Int) / 2 ^ n = 0 := by
    have e : (x : Int) / 2 ^ n = ((x / 2 ^ n : Nat) : Int) := by push_cast; rfl
    rw [e, Nat.div_eq_of_lt hx]; rfl
  have hx2 : (x : Int) ≤ 4611686018427387904 := by omega
  have HSP := Lib.hid hsp
  clear hsp hp hx
  go_enter Try.func21, Try.ntmps21
  go_wp2_with (go_at_call 42; refine HSP.out.mono ?_; rintro e w1 ⟨rfl, hg1, ho1⟩; have HG1 := Lib.hid hg1; have HO1 := Lib.hid ho1; clear hg1 ho1)
  go_ret2
  exact ⟨_, rfl, ((Below.refl _ _).alloc (Nat.le_refl _) _).grown HG1.out (by simp) (fun j hj => by cases hj; exact Nat.le_refl _), HO1.out⟩
theorem Row_bad (x n : Int) (w : World) (h : rowBad x n) (hx : -9223372036854775808 ≤ x ∧ x ≤ 9223372036854775807) (hn : -9223372036854775808 ≤ n ∧ n ≤ 9223372036854775807) :
    Calls Try.prog 21 #[.int .i64 x, .int .i64 n] w fun e w' => e = .returned (.tuple #[.slice none 0 0, .int .i64 1]) ∧ w = w' := by
  by_cases g1 : n < 0
  · clear h
    go_enter Try.func21, Try.ntmps21
    go_wp2
    go_ret2
    exact ⟨rfl, rfl⟩
  · by_cases g2 : 62 < n
    · clear h
      go_enter Try.func21, Try.ntmps21
      go_wp2
      go_ret2
      exact ⟨rfl, rfl⟩
    · by_cases g3 : x < 0
      · clear h
        go_enter Try.func21, Try.ntmps21
        go_wp2
        go_ret2
        exact ⟨rfl, rfl⟩
      · obtain ⟨m, rfl⟩ := Int.eq_ofNat_of_zero_le (show 0 ≤ n by omega)
        obtain ⟨y, rfl⟩ := Int.eq_ofNat_of_zero_le (show 0 ≤ x by omega)
        have h4 : 2 ^ m ≤ y := by
          unfold rowBad at h
          rcases h with h | h | h | h
          · omega
          · omega
          · omega
          · simpa using h
        have e : (y : Int) / 2 ^ m = ((y / 2 ^ m : Nat) : Int) := by push_cast; rfl
        have hpos : 0 < y / 2 ^ m := Nat.div_pos h4 (Nat.pow_pos (by omega))
        have q : ((y : Int) / 2 ^ m != 0) = true := by rw [e]; simp; omega
        clear h h4 e hpos
        go_enter Try.func21, Try.ntmps21
        go_wp2
        go_ret2
        exact ⟨rfl, rfl⟩
end Go.Proofs.Ythchemgkfjmhjaa
