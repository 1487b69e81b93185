/- AsciiRight: the walk. -/
import Derived.Test.YtkkolefhfmlhfabDoorAscRt
import Derived.Test.YtkkolefhfmlhfabDoorAscOne
namespace Go.Proofs.YtkkolefhfmlhfabDoor
open Go.RowKit

theorem run_idx1 {s : ByteArray} {t : TypeId} {c : UInt8} {p : Nat} (ht : Tryd.prog.underlying t = some .string) (h1 : 1 ≤ p) (h : p - 1 < s.size) (hc : s[p - 1]'h = c) (wx : World) : (Instr.index t (.string s) (.int .i64 ((p : Int) - 1))).run Tryd.prog wx = .ok (.int .u8 (c.toNat : Int)) wx := by
  have e : ((p : Int) - 1).toNat = p - 1 := by omega
  rw [run_index_string wx t s .i64 _ ht, dif_pos (by omega)]
  simp only [e, hc]
set_option maxHeartbeats 8000000 in
set_option maxRecDepth 100000 in
theorem asciiRight_no (w : World) (B : Nat) (s : Bs) (hs : s.length ≤ 9223372036854775807) (lib : LibB B w) (hB : B ≤ w.heap.size) (hn : ¬ ReadsA s) :
    Calls Tryd.prog 5 #[.string (strB s)] w fun e w' => e = .returned (.bool true) ∧ Below w.heap.size w w' := by
  have HW := Lib.hid (works_any w B lib hB)
  have HRD := Lib.hid (fun (wx : World) (hx : Below w.heap.size w wx) => Read_no wx B s hs (lib.up hB hx) (Nat.le_trans hB hx.size) hn)
  have HLS : Hid ((strB s).size = s.length) := Lib.hid (strB_size s)
  clear lib hn
  go_enter Tryd.func5, Tryd.ntmps5
  go_upto_region 4 with (first
    | (go_at_call 12; refine HW.out.mono ?_; rintro e w1 ⟨rfl, hb⟩; have HB1 := Lib.hid hb; clear hb)
    | (go_at_call 16; refine (HRD.out w1 HB1.out).mono ?_; rintro e w2 ⟨hb, k, x, rfl, hx, hk⟩; have HB2 := Lib.hid (bt HB1.out (Nat.le_refl _) hb); have HX2 := Lib.hid hx; have HK2 := Lib.hid hk; clear hb hx hk))
  obtain ⟨x1, hx1⟩ : ∃ z9, w2.heap.size = z9 := ⟨_, rfl⟩
  obtain ⟨u1, hu1⟩ : ∃ z9, (w2.alloc (.cells circ0 44)).alloc (.cells #[.int .i64 (k : Int), .int .i64 x] 25) = z9 := ⟨_, rfl⟩
  have HBU1 : Hid (Below w.heap.size w u1) := Lib.hid (by rw [← hu1]; exact (HB2.out.alloc HB2.out.size _).alloc (by have := HB2.out.size; simp; omega) _)
  have hxa : Blk u1 x1 44 circ0 := by rw [← hu1, ← hx1]; exact (Blk.new w2 _ _).alloc _
  have hxb : Blk u1 (x1 + 1) 25 #[.int .i64 (k : Int), .int .i64 x] := by
    have h9 := Blk.new (w2.alloc (.cells circ0 44)) 25 #[.int .i64 (k : Int), .int .i64 x]
    rw [show (w2.alloc (.cells circ0 44)).heap.size = x1 + 1 by simp [hx1], hu1] at h9
    exact h9
  have m0 : u1.cell? ⟨x1 + 1, 0, none⟩ = some (.int .i64 (k : Int)) := hxb.cell 0
  have m1 : u1.cell? ⟨x1 + 1, 1, none⟩ = some (.int .i64 x) := hxb.cell 1
  have m2 : u1.cell? ⟨x1, 8, none⟩ = some (.slice none 0 0) := hxa.cell 8
  have m3 : u1.cell? ⟨x1, 0, none⟩ = some (.int .i64 0) := hxa.cell 0
  have hx : ¬ x = 0 := HX2.out
  have hxq : (x != 0) = true := by simpa using hx
  have hk0 : (0 : Int) ≤ (k : Int) := by omega
  have hk1 : (k : Int) ≤ ((strB s).size : Int) := by rw [HLS.out]; have := HK2.out; omega
  have hkq : decide ((k : Int) ≤ ((strB s).size : Int)) = true := decide_eq_true hk1
  (try rw [hx1])
  rw [hu1]
  clear hu1 hxa hxb hx1
  go_wp2
  go_ret
  exact ⟨rfl, HBU1.out⟩
set_option maxHeartbeats 8000000 in
set_option maxRecDepth 100000 in
theorem asciiRight_yes (w : World) (B : Nat) (s : Bs) (lib : LibB B w) (hB : B ≤ w.heap.size) (hy : ReadsA s) :
    Calls Tryd.prog 5 #[.string (strB s)] w fun e w' => e = .returned (.bool true) ∧ Below w.heap.size w w' := by
  have hle := hy.end_.2.2
  have HW := Lib.hid (works_any w B lib hB)
  obtain ⟨m, n1, n2, n3, n4, n5, n6, n7, n8, l, r, hh, hl, _⟩ := Read_yes w B s lib hB hy
  have HRD := Lib.hid (fun (wx : World) (hx : Below w.heap.size w wx) => by
    obtain ⟨m', n1', n2', n3', n4', n5', n6', n7', n8', l', r', hh', _, hc⟩ := Read_yes wx B s (lib.up hB hx) (Nat.le_trans hB hx.size) hy
    rw [hh] at hh'
    simp only [Except.ok.injEq, Prod.mk.injEq, List.cons.injEq, and_true, true_and] at hh'
    obtain ⟨⟨rfl, rfl, rfl, rfl, rfl, rfl, rfl, rfl, rfl⟩, rfl⟩ := hh'
    exact hc)
  have HHD : Hid (∀ (wx : World), Below w.heap.size w wx → Calls Tryd.prog 8 #[.string (strB s)] wx fun e w' => Below wx.heap.size wx w' ∧ ∃ g, e = .returned (.tuple #[.string ⟨#[97, 97, 103]⟩, .slice (some ⟨g, 0, none⟩) 9 9, .int .i64 ((s.length - r.length : Nat) : Int), flt 0 0]) ∧ wx.heap.size ≤ g ∧ Nums w' g (intsA [m, n1, n2, n3, n4, n5, n6, n7, n8])) := Lib.hid (fun wx hx => by
    refine (Head_any wx B s (by omega) (lib.up hB hx) (Nat.le_trans hB hx.size)).mono ?_
    rintro e w' ⟨hb, ha⟩
    unfold HeadAns at ha
    rw [if_neg (by omega), hh] at ha
    exact ⟨hb, ha⟩)
  have hlen := lineA_len hl
  obtain ⟨p, hp⟩ : ∃ p : Nat, s.length - r.length = p := ⟨_, rfl⟩
  rw [hp] at HHD
  have hp1 : 1 ≤ p := by omega
  have hp2 : p ≤ s.length := by omega
  have hp3 : s[p - 1]? = some 10 := by
    have e9 : p - 1 = l.length := by omega
    rw [e9, (lineA_some hl).1, List.getElem?_append_right (Nat.le_refl _)]
    simp
  have HLS : Hid ((strB s).size = s.length) := Lib.hid (strB_size s)
  obtain ⟨hik, hiv⟩ := getN hp3
  have HIX : Hid (∀ wx : World, (Instr.index 9 (.string (strB s)) (.int .i64 ((p : Int) - 1))).run Tryd.prog wx = .ok (.int .u8 10) wx) := Lib.hid (fun wx => run_idx1 Tryd.underlying9 hp1 hik hiv wx)
  clear lib hy hh hl hlen hp hp3 hik hiv
  go_enter Tryd.func5, Tryd.ntmps5
  go_upto_region 4 with (first
    | (go_at_call 12; refine HW.out.mono ?_; rintro e w1 ⟨rfl, hb⟩; have HB1 := Lib.hid hb; clear hb)
    | (go_at_call 16; refine (HRD.out w1 HB1.out).mono ?_; rintro e w2 ⟨hb, g1, g2, g3, g4, g5, g6, g7, g8, As, ms, cs, At, mt, ct, rfl, hck⟩; have HB2 := Lib.hid (bt HB1.out (Nat.le_refl _) hb); have HCK := Lib.hid hck; clear hb hck))
  obtain ⟨x1, hx1⟩ : ∃ z9, w2.heap.size = z9 := ⟨_, rfl⟩
  obtain ⟨u1, hu1⟩ : ∃ z9, (w2.alloc (.cells #[.int .i64 (m : Int), .slice (some ⟨g1, 0, none⟩) n1 n1, .slice (some ⟨g2, 0, none⟩) n2 n2, .slice (some ⟨g3, 0, none⟩) n3 n3, .slice (some ⟨g5, 0, none⟩) n5 n5, .slice (some ⟨g6, 0, none⟩) n6 n6, .slice (some ⟨g7, 0, none⟩) n7 n7, .slice (some ⟨g8, 0, none⟩) n8 n8, .slice (some ⟨g4, 0, none⟩) n4 n4, .slice As ms cs, .slice At mt ct] 44)).alloc (.cells #[.int .i64 0, .int .i64 0] 25) = z9 := ⟨_, rfl⟩
  have hbu : Below w2.heap.size w2 u1 := by rw [← hu1]; exact ((Below.refl _ _).alloc (Nat.le_refl _) _).alloc (by simp) _
  have HBU1 : Hid (Below w.heap.size w u1) := Lib.hid (bt HB2.out (Nat.le_refl _) hbu)
  have HXA : Hid (Blk u1 x1 44 #[.int .i64 (m : Int), .slice (some ⟨g1, 0, none⟩) n1 n1, .slice (some ⟨g2, 0, none⟩) n2 n2, .slice (some ⟨g3, 0, none⟩) n3 n3, .slice (some ⟨g5, 0, none⟩) n5 n5, .slice (some ⟨g6, 0, none⟩) n6 n6, .slice (some ⟨g7, 0, none⟩) n7 n7, .slice (some ⟨g8, 0, none⟩) n8 n8, .slice (some ⟨g4, 0, none⟩) n4 n4, .slice As ms cs, .slice At mt ct]) := Lib.hid (by rw [← hu1, ← hx1]; exact (Blk.new w2 _ _).alloc _)
  have hxb : Blk u1 (x1 + 1) 25 #[.int .i64 0, .int .i64 0] := by
    have h9 := Blk.new (w2.alloc (.cells #[.int .i64 (m : Int), .slice (some ⟨g1, 0, none⟩) n1 n1, .slice (some ⟨g2, 0, none⟩) n2 n2, .slice (some ⟨g3, 0, none⟩) n3 n3, .slice (some ⟨g5, 0, none⟩) n5 n5, .slice (some ⟨g6, 0, none⟩) n6 n6, .slice (some ⟨g7, 0, none⟩) n7 n7, .slice (some ⟨g8, 0, none⟩) n8 n8, .slice (some ⟨g4, 0, none⟩) n4 n4, .slice As ms cs, .slice At mt ct] 44)) 25 #[.int .i64 0, .int .i64 0]
    rw [show (w2.alloc (.cells #[.int .i64 (m : Int), .slice (some ⟨g1, 0, none⟩) n1 n1, .slice (some ⟨g2, 0, none⟩) n2 n2, .slice (some ⟨g3, 0, none⟩) n3 n3, .slice (some ⟨g5, 0, none⟩) n5 n5, .slice (some ⟨g6, 0, none⟩) n6 n6, .slice (some ⟨g7, 0, none⟩) n7 n7, .slice (some ⟨g8, 0, none⟩) n8 n8, .slice (some ⟨g4, 0, none⟩) n4 n4, .slice As ms cs, .slice At mt ct] 44)).heap.size = x1 + 1 by simp [hx1], hu1] at h9
    exact h9
  have m0 : u1.cell? ⟨x1 + 1, 0, none⟩ = some (.int .i64 0) := hxb.cell 0
  have m1 : u1.cell? ⟨x1 + 1, 1, none⟩ = some (.int .i64 0) := hxb.cell 1
  have HCK1 := Lib.hid (HCK.out u1 hbu)
  (try rw [hx1])
  rw [hu1]
  clear hu1 hxb hx1 hbu
  go_upto_region 7 with (first
    | (refine wpList_load_row rfl 44 (.tmp 3) rfl x1 rfl 44 #[.int .i64 (m : Int), .slice (some ⟨g1, 0, none⟩) n1 n1, .slice (some ⟨g2, 0, none⟩) n2 n2, .slice (some ⟨g3, 0, none⟩) n3 n3, .slice (some ⟨g5, 0, none⟩) n5 n5, .slice (some ⟨g6, 0, none⟩) n6 n6, .slice (some ⟨g7, 0, none⟩) n7 n7, .slice (some ⟨g8, 0, none⟩) n8 n8, .slice (some ⟨g4, 0, none⟩) n4 n4, .slice As ms cs, .slice At mt ct] (0, 0) _ HXA.out Tryd.underlying44 rfl (by kernel_rfl) ?_)
    | (go_at_call 17; refine HCK1.out.mono ?_; rintro e w3 ⟨⟨x9, rfl⟩, hb⟩; have HB3 := Lib.hid (bt HBU1.out (Nat.le_refl _) hb); have HXA3 := Lib.hid (HXA.out.below hb (Blk.lt HXA.out)); clear hb))
  go_upto_region 8 with (go_at_call 8; refine (HHD.out w3 HB3.out).mono ?_; rintro e w4 ⟨hb, g, rfl, hg, hn⟩; have HB4 := Lib.hid (bt HB3.out (Nat.le_refl _) hb); have HN4 := Lib.hid hn; have HXA4 := Lib.hid (HXA3.out.below hb (Blk.lt HXA3.out)); clear hb hg hn)
  obtain ⟨x5, hx5⟩ : ∃ z9, w4.heap.size = z9 := ⟨_, rfl⟩
  obtain ⟨u5, hu5⟩ : ∃ z9, w4.alloc (.cells #[.int .i64 0, .int .i64 0] 25) = z9 := ⟨_, rfl⟩
  have hb5 : Below w4.heap.size w4 u5 := by rw [← hu5]; exact (Below.refl _ _).alloc (Nat.le_refl _) _
  have HBU5 : Hid (Below w.heap.size w u5) := Lib.hid (bt HB4.out (Nat.le_refl _) hb5)
  have hxe : Blk u5 x5 25 #[.int .i64 0, .int .i64 0] := by rw [← hu5, ← hx5]; exact Blk.new _ _ _
  have HXA5 : Hid (Blk u5 x1 44 #[.int .i64 (m : Int), .slice (some ⟨g1, 0, none⟩) n1 n1, .slice (some ⟨g2, 0, none⟩) n2 n2, .slice (some ⟨g3, 0, none⟩) n3 n3, .slice (some ⟨g5, 0, none⟩) n5 n5, .slice (some ⟨g6, 0, none⟩) n6 n6, .slice (some ⟨g7, 0, none⟩) n7 n7, .slice (some ⟨g8, 0, none⟩) n8 n8, .slice (some ⟨g4, 0, none⟩) n4 n4, .slice As ms cs, .slice At mt ct]) := Lib.hid (HXA4.out.below hb5 (Blk.lt HXA4.out))
  have HN5 : Hid (Nums u5 g (intsA [m, n1, n2, n3, n4, n5, n6, n7, n8])) := Lib.hid (Blk.below HN4.out hb5 (Blk.lt HN4.out))
  have m4 : u5.cell? ⟨x5, 0, none⟩ = some (.int .i64 0) := hxe.cell 0
  have m5 : u5.cell? ⟨x5, 1, none⟩ = some (.int .i64 0) := hxe.cell 1
  (try rw [hx5])
  rw [hu5]
  clear hu5 hx5 hb5 hxe m0 m1
  have hp1i : ¬ ((p : Int) < 1) := by omega
  have hp2i : ¬ (((strB s).size : Int) < (p : Int)) := by rw [HLS.out]; omega
  have hp3i : (1 : Int) ≤ (p : Int) := by omega
  have hp4i : (p : Int) ≤ 262144 := by omega
  have hix := HIX.out
  go_upto_region 10 with (fail)
  have n0 : u5.cell? ⟨g, 0, none⟩ = some (.int .i64 (m : Int)) := Nums.cell HN5.out (by simp [intsA])
  have n1_ : u5.cell? ⟨g, 1, none⟩ = some (.int .i64 (n1 : Int)) := Nums.cell HN5.out (by simp [intsA])
  have n2_ : u5.cell? ⟨g, 2, none⟩ = some (.int .i64 (n2 : Int)) := Nums.cell HN5.out (by simp [intsA])
  have n3_ : u5.cell? ⟨g, 3, none⟩ = some (.int .i64 (n3 : Int)) := Nums.cell HN5.out (by simp [intsA])
  have n4_ : u5.cell? ⟨g, 4, none⟩ = some (.int .i64 (n4 : Int)) := Nums.cell HN5.out (by simp [intsA])
  have b0 : u5.cell? ⟨x1, 0, none⟩ = some (.int .i64 (m : Int)) := HXA5.out.cell 0
  have b1 : u5.cell? ⟨x1, 1, none⟩ = some (.slice (some ⟨g1, 0, none⟩) n1 n1) := HXA5.out.cell 1
  have b2 : u5.cell? ⟨x1, 2, none⟩ = some (.slice (some ⟨g2, 0, none⟩) n2 n2) := HXA5.out.cell 2
  have b3 : u5.cell? ⟨x1, 3, none⟩ = some (.slice (some ⟨g3, 0, none⟩) n3 n3) := HXA5.out.cell 3
  have b8 : u5.cell? ⟨x1, 8, none⟩ = some (.slice (some ⟨g4, 0, none⟩) n4 n4) := HXA5.out.cell 8
  clear m4 m5 hp1i hp2i hp3i hp4i hix
  go_region
  have c5 : u5.drew.cell? ⟨g, 5, none⟩ = some (.int .i64 (n5 : Int)) := Nums.cell HN5.out (by simp [intsA])
  have c6 : u5.drew.cell? ⟨g, 6, none⟩ = some (.int .i64 (n6 : Int)) := Nums.cell HN5.out (by simp [intsA])
  have c7 : u5.drew.cell? ⟨g, 7, none⟩ = some (.int .i64 (n7 : Int)) := Nums.cell HN5.out (by simp [intsA])
  have c8 : u5.drew.cell? ⟨g, 8, none⟩ = some (.int .i64 (n8 : Int)) := Nums.cell HN5.out (by simp [intsA])
  have b4 : u5.drew.cell? ⟨x1, 4, none⟩ = some (.slice (some ⟨g5, 0, none⟩) n5 n5) := HXA5.out.cell 4
  have b5 : u5.drew.cell? ⟨x1, 5, none⟩ = some (.slice (some ⟨g6, 0, none⟩) n6 n6) := HXA5.out.cell 5
  have b6 : u5.drew.cell? ⟨x1, 6, none⟩ = some (.slice (some ⟨g7, 0, none⟩) n7 n7) := HXA5.out.cell 6
  have b7 : u5.drew.cell? ⟨x1, 7, none⟩ = some (.slice (some ⟨g8, 0, none⟩) n8 n8) := HXA5.out.cell 7
  obtain ⟨u6, hu6⟩ : ∃ z9, u5.drew = z9 := ⟨_, rfl⟩
  have HBU6 : Hid (Below w.heap.size w u6) := Lib.hid (by rw [← hu6]; exact ⟨HBU5.out.os, HBU5.out.tape, HBU5.out.output, HBU5.out.size, HBU5.out.block⟩)
  rw [hu6] at c5 c6 c7 c8 b4 b5 b6 b7 ⊢
  clear hu6 n0 n1_ n2_ n3_ n4_ b0 b1 b2 b3 b8
  go_upto_region 11 with (fail)
  go_region
  go_wp2
  go_ret
  exact ⟨rfl, HBU6.out.os, HBU6.out.tape, HBU6.out.output, HBU6.out.size, HBU6.out.block⟩
theorem asciiRight_any (w : World) (B : Nat) (s : Bs) (hs : s.length ≤ 9223372036854775807) (lib : LibB B w) (hB : B ≤ w.heap.size) :
    Calls Tryd.prog 5 #[.string (strB s)] w fun e w' => e = .returned (.bool true) ∧ Below w.heap.size w w' := by
  by_cases hy : ReadsA s
  · exact asciiRight_yes w B s lib hB hy
  · exact asciiRight_no w B s hs lib hB hy
end Go.Proofs.YtkkolefhfmlhfabDoor
