/- The document's Bits. -/
import Derived.Test.YthchemgkfjmhjaaBits
import Derived.Test.YthchemgkfjmhjaaWrong
namespace Go.Proofs.Ythchemgkfjmhjaa
open Go.RowKit

theorem RBits_long (s : ByteArray) (w : World) (hs : s.size ≤ 9223372036854775807) (hn : 16384 < s.size) :
    Calls Try.prog 20 #[.string s] w fun e w' => e = .returned (.tuple #[.slice none 0 0, fault 0 2]) ∧ Below w.heap.size w w' := by
  go_enter Try.func20, Try.ntmps20
  go_wp2_with (go_at_call 41; refine (wrong_any 0 2 _).mono ?_; rintro e w1 ⟨rfl, hb1⟩; obtain ⟨hc0, hf0, hz1⟩ := keep_box hb1 0; obtain ⟨hc1, hf1, _⟩ := keep_box hb1 1; have HB1 := Lib.hid hb1; clear hb1; simp at hc0 hc1)
  refine bodyPost_ret (v := .tuple #[.slice none 0 0, fault 0 2]) (by simp [results, Try.results20, go_sem, hc0, hc1]) rfl ⟨rfl, ((Below.box HB1.out).setCell (Nat.le_refl _) _).setCell (Nat.le_refl _) _⟩

set_option maxHeartbeats 2000000 in
set_option maxRecDepth 100000 in
theorem RBits_any (s : ByteArray) (w : World) (o : Option Nat) (hf : FirstO s o) (hn : s.size ≤ 16384) :
    Calls Try.prog 20 #[.string s] w (BitsPost s w o) := by
  have hmk := fun wx => make_bools s.size (by omega) wx
  have HF := Lib.hid hf
  have HMD := Lib.hid (made_bools (w.alloc (.cells #[Value.int .i64 0, Value.int .i64 0] 37)) s.size (by unfold maxLen; omega))
  clear hf
  go_enter Try.func20, Try.ntmps20
  go_wp2
  go_loopw [5] (fun i wr => ∃ k : Nat, k ≤ s.size ∧ i = .int .i64 k ∧ GoodTo s k ∧ Below w.heap.size w wr ∧ w.heap.size + 1 < wr.heap.size ∧ wr.cell? ⟨w.heap.size, 0, none⟩ = some (.int .i64 0) ∧ wr.cell? ⟨w.heap.size, 1, none⟩ = some (.int .i64 0) ∧ wr.frozen? ⟨w.heap.size, 0, none⟩ = false ∧ wr.frozen? ⟨w.heap.size, 1, none⟩ = false ∧
      wr.ownsRow (w.heap.size + 1) 4 1 (.slice (some ⟨w.heap.size + 1, 0, none⟩) s.size s.size) s.size (bls (mkb s.size (bpart s k)))) (fun i _ => s.size - (intOf i).toNat)
  case atStart =>
    have hbk := (Blk.new w 37 #[Value.int .i64 0, Value.int .i64 0]).alloc (.cells (madeCells #[Value.bool false] s.size) 4)
    refine ⟨0, by omega, rfl, fun i _ hi => by omega, ((Below.refl _ _).alloc (Nat.le_refl _) _).alloc (by simp) _, by simp, hbk.cell 0, hbk.cell 1, hbk.frozen 0, hbk.frozen 1, ?_⟩
    rw [show mkb s.size (bpart s 0) = mkb s.size fun _ => false from mkb_congr fun i _ => by unfold bpart; rw [if_neg (by omega)]]
    simpa using HMD.out
  case round =>
    obtain ⟨k, hk, rfl, hgd, hbw, hsz, hc0, hc1, hf0, hf1, how⟩ := hrel
    have HGD := Lib.hid hgd
    have HBW := Lib.hid hbw
    have HSZ := Lib.hid hsz
    by_cases hlt : k < s.size
    · have hcell : wr.cell? ⟨w.heap.size + 1, k, none⟩ = some (.bool (bit (mkb s.size (bpart s k)) k)) := by
        rw [how.cellAt k (by omega)]
        simp [bit, List.getD, hlt]
      have hfr := how.frozenAt k
      have hst := (how.stored k (.bool (sbit s k))).1
      rw [map_set s.size k (bpart s k) Value.bool (sbit s k) hlt, show (fun j => if j = k then sbit s k else bpart s k j) = bpart s (k + 1) from funext (bpart_step s k), sbit_at hlt] at hst
      generalize bit (mkb s.size (bpart s k)) k = y at hcell
      have hgn := hgd.next hlt
      have hfs := first_some HF.out hgd hlt
      have hb255 : s[k].toNat ≤ 255 := by have := UInt8.toNat_lt s[k]; omega
      generalize hc : s[k].toNat = c at hst hgn hfs hb255
      have HC := Lib.hid hc
      clear hgd hbw hsz how
      by_cases hc48 : c = 48
      · have q1 : ((c : Int) != 48) = false := by rw [hc48]; rfl
        have q2 : ((c : Int) == 49) = false := by rw [hc48]; rfl
        have q3 : (c == 49) = false := by rw [hc48]; rfl
        rw [q3] at hst
        have HST := Lib.hid hst
        have HGN := Lib.hid (hgn (.inl hc48))
        have hk0 := World.cell?_setCell_other wr ⟨w.heap.size + 1, k, none⟩ ⟨w.heap.size, 0, none⟩ (.bool false) (by simp)
        have hk1 := World.cell?_setCell_other wr ⟨w.heap.size + 1, k, none⟩ ⟨w.heap.size, 1, none⟩ (.bool false) (by simp)
        have HK := Lib.hid (And.intro (hk0.trans hc0) (hk1.trans hc1))
        have HF0 := Lib.hid (And.intro hf0 hf1)
        clear hst hgn hfs hc48 hk0 hk1
        go_wp2
        go_roundw
        case rel => exact ⟨k + 1, by omega, by go_num, HGN.out, HBW.out.setCell (by simp) _, by simpa [World.setCell] using HSZ.out, HK.out.1, HK.out.2, by simpa using HF0.out.1, by simpa using HF0.out.2, HST.out⟩
        case measure => simp [intOf]; omega
      · by_cases hc49 : c = 49
        · have q1 : ((c : Int) != 48) = true := by rw [hc49]; rfl
          have q1' : ((c : Int) != 49) = false := by rw [hc49]; rfl
          have q2 : ((c : Int) == 49) = true := by rw [hc49]; rfl
          have q3 : (c == 49) = true := by rw [hc49]; rfl
          rw [q3] at hst
          have HST := Lib.hid hst
          have HGN := Lib.hid (hgn (.inr hc49))
          have hk0 := World.cell?_setCell_other wr ⟨w.heap.size + 1, k, none⟩ ⟨w.heap.size, 0, none⟩ (.bool true) (by simp)
          have hk1 := World.cell?_setCell_other wr ⟨w.heap.size + 1, k, none⟩ ⟨w.heap.size, 1, none⟩ (.bool true) (by simp)
          have HK := Lib.hid (And.intro (hk0.trans hc0) (hk1.trans hc1))
          have HF0 := Lib.hid (And.intro hf0 hf1)
          clear hst hgn hfs hc49 hc48 hk0 hk1
          go_wp2
          go_roundw
          case rel => exact ⟨k + 1, by omega, by go_num, HGN.out, HBW.out.setCell (by simp) _, by simpa [World.setCell] using HSZ.out, HK.out.1, HK.out.2, by simpa using HF0.out.1, by simpa using HF0.out.2, HST.out⟩
          case measure => simp [intOf]; omega
        · have q1 : ((c : Int) != 48) = true := by simp; omega
          have q1' : ((c : Int) != 49) = true := by simp; omega
          have HFS := Lib.hid (hfs (by omega))
          clear hst hgn hfs hc49 hc48
          have hz : w.heap.size < wr.heap.size := by have := HSZ.out; omega
          go_wp2_with (go_at_call 41; refine (wrong_any (k : Int) 21 _).mono ?_; rintro e w2 ⟨rfl, hb2⟩; have hc20 := (hb2.cell (p := ⟨w.heap.size, 0, none⟩) hz).trans hc0; have hc21 := (hb2.cell (p := ⟨w.heap.size, 1, none⟩) hz).trans hc1; have hf20 := (hb2.frozen (p := ⟨w.heap.size, 0, none⟩) hz).trans hf0; have hf21 := (hb2.frozen (p := ⟨w.heap.size, 1, none⟩) hz).trans hf1; have hz2 : w.heap.size < w2.heap.size := Nat.lt_of_lt_of_le hz hb2.size; have HB2 := Lib.hid (bt HBW.out (Nat.le_refl _) hb2); clear hb2)
          refine bodyPost_ret (v := .tuple #[.slice none 0 0, fault (k : Int) 21]) (by simp [results, Try.results20, go_sem, hc20, hc21]) rfl ?_
          exact bitsPost_some HFS.out rfl ((HB2.out.setCell (Nat.le_refl _) _).setCell (Nat.le_refl _) _)
    · have : k = s.size := by omega
      subst this
      have HN := Lib.hid (first_none HF.out hgd)
      have HOW := Lib.hid how
      have hz : w.heap.size < wr.heap.size := by omega
      clear hgd hbw hsz how
      go_wp2
      refine bodyPost_ret (v := .tuple #[.slice (some ⟨w.heap.size + 1, 0, none⟩) s.size s.size, fault 0 0]) (by simp [results, Try.results20, go_sem, hc0, hc1]) rfl ?_
      refine bitsPost_none HN.out rfl ((HBW.out.setCell (Nat.le_refl _) _).setCell (Nat.le_refl _) _) ?_
      have e : mkb s.size (bpart s s.size) = mkb s.size (sbit s) := mkb_congr fun i hi => by unfold bpart; rw [if_pos hi]
      rw [← e]
      exact own_mono (own_far (own_far HOW.out ⟨w.heap.size, 0, none⟩ _ (by rintro g hg; cases hg; simp)) ⟨w.heap.size, 1, none⟩ _ (by rintro g hg; cases hg; simp)) (by omega)
end Go.Proofs.Ythchemgkfjmhjaa
