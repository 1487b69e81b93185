/- Ascii: the circuit between header and end. -/
import Derived.Test.YtkkolefhfmlhfabDoorAscL
namespace Go.Proofs.YtkkolefhfmlhfabDoor
open Go.RowKit

abbrev circ0 : Array Value := #[.int .i64 0, .slice none 0 0, .slice none 0 0, .slice none 0 0, .slice none 0 0, .slice none 0 0, .slice none 0 0, .slice none 0 0, .slice none 0 0, .slice none 0 0, .slice none 0 0]
set_option maxHeartbeats 20000000 in
set_option maxRecDepth 100000 in
theorem circuit_any (w : World) (B b gc : Nat) (s : Bs) (p l m n1 n2 n3 n4 n5 n6 n7 n8 : Nat) (h : Rd w b s p l) (hp : p ≤ s.length) (hs : s.length ≤ 262144) (hct : Nums w gc (intsA [m, n1, n2, n3, n4, n5, n6, n7, n8])) (hgc : gc ≠ b)
    (h1 : n1 ≤ 100000) (h2 : n2 ≤ 100000) (h3 : n3 ≤ 100000) (h4 : n4 ≤ 100000) (h5 : n5 ≤ 100000) (h6 : n6 ≤ 100000) (h7 : n7 ≤ 100000) (h8 : n8 ≤ 100000) (lib : LibB B w) (hB : B ≤ b) :
    Calls Tryd.prog 32 #[.pointer (some ⟨b, 0, none⟩), .slice (some ⟨gc, 0, none⟩) 9 9] w fun e w' => w.grownBy w' (some b) ∧ BodyAns w b s m (bodyA [m, n1, n2, n3, n4, n5, n6, n7, n8] (s.drop p)) e w' := by
  have hlt : b < w.heap.size := Blk.lt h
  have hgl : gc < w.heap.size := Blk.lt hct
  have HLB := Lib.hid lib
  have HCT := Lib.hid hct
  obtain ⟨q, hq⟩ : ∃ q, bodyA [m, n1, n2, n3, n4, n5, n6, n7, n8] (s.drop p) = q := ⟨_, rfl⟩
  rw [hq]
  have HQ := Lib.hid hq
  clear hq
  obtain ⟨bo, hbo⟩ : ∃ bo, w.heap.size + 1 = bo := ⟨_, rfl⟩
  have HBO := Lib.hid hbo
  have hbz : ∀ wx : World, (Instr.build 44 #[(0, .int .i64 (m : Int))]).run Tryd.prog wx = .ok (.agg #[.int .i64 (m : Int), .slice none 0 0, .slice none 0 0, .slice none 0 0, .slice none 0 0, .slice none 0 0, .slice none 0 0, .slice none 0 0, .slice none 0 0, .slice none 0 0, .slice none 0 0]) wx := fun wx => run_build wx _ _ _ (by kernel_rfl)
  have c0 : w.cell? ⟨gc, 0, none⟩ = some (.int .i64 (m : Int)) := hct.cell (by simp [intsA])
  obtain ⟨w2, hw2⟩ : ∃ w2, (w.alloc (.cells circ0 44)).alloc (.cells #[.int .i64 (m : Int), .slice none 0 0, .slice none 0 0, .slice none 0 0, .slice none 0 0, .slice none 0 0, .slice none 0 0, .slice none 0 0, .slice none 0 0, .slice none 0 0, .slice none 0 0] 44) = w2 := ⟨_, rfl⟩
  have HW2 := Lib.hid hw2
  have HX2 : Hid (Blk w2 bo 44 #[.int .i64 (m : Int), .slice none 0 0, .slice none 0 0, .slice none 0 0, .slice none 0 0, .slice none 0 0, .slice none 0 0, .slice none 0 0, .slice none 0 0, .slice none 0 0, .slice none 0 0]) := Lib.hid (by
    have h9 := Blk.new (w.alloc (.cells circ0 44)) 44 #[.int .i64 (m : Int), .slice none 0 0, .slice none 0 0, .slice none 0 0, .slice none 0 0, .slice none 0 0, .slice none 0 0, .slice none 0 0, .slice none 0 0, .slice none 0 0, .slice none 0 0]
    rw [show (w.alloc (.cells circ0 44)).heap.size = bo by simp [hbo], hw2] at h9
    exact h9)
  have HRB : Hid (Blk w2 w.heap.size 44 circ0) := Lib.hid (by rw [← hw2]; exact (Blk.new w _ _).alloc _)
  have hbw2 : Below w.heap.size w w2 := by
    rw [← hw2]
    exact ((Below.refl _ _).alloc (Nat.le_refl _) _).alloc (by simp) _
  have HB2 : Hid (B3 b bo bo w w2) := Lib.hid (B3.of_below hbw2)
  have HR2 : Hid (Rd w2 b s p l) := Lib.hid (h.below hbw2)
  have hs2 : w2.heap.size = bo + 1 := by rw [← hw2]; simp; omega
  clear hw2 hbw2 hct lib h
  go_enter Tryd.func32, Tryd.ntmps32
  go_upto_region 2 with (fail)
  (try rw [HBO.out])
  rw [HW2.out]
  have hro : w.heap.size < bo := by omega
  have HBR2 : Hid (B3 b bo bo w2 w2) := Lib.hid ⟨rfl, rfl, rfl, Nat.le_refl _, fun _ _ _ _ _ => rfl⟩
  clear hbz c0
  have c1 : w2.cell? ⟨gc, 1, none⟩ = some (.int .i64 (n1 : Int)) := Nums.cell (HB2.out.blk HCT.out hgc (by omega) (by omega)) (by simp [intsA])
  have HC1 := Lib.hid (literals_any w2 B b s p l n1 HR2.out hp hs h1 (HLB.out.on (HB2.out.below hB (by omega) (by omega) (by omega))) hB)
  have hz1 : bo < w2.heap.size := Blk.lt HX2.out
  cases hr1 : listA 2147483647 n1 (s.drop p) with
  | error kk =>
    rw [hr1] at HC1
    have HE : Hid (q = .error kk) := Lib.hid (by rw [← HQ.out]; simp [bodyA, hr1])
    clear hr1
    go_wp2_with (go_at_call 56; refine HC1.out.mono ?_; rintro e w9 ⟨hg, he⟩; have he2 : e = pan ((s.length - kk : Nat) : Int) 42 := he; subst he2; have HG := Lib.hid ((HB2.out.trans (B3.of_grown hg)).grown (by omega) (by omega)); clear hg he)
    refine ⟨rfl, HG.out, ?_⟩
    rw [HE.out]
    rfl
  | ok y =>
    obtain ⟨x1, r1⟩ := y
    rw [hr1] at HC1
    have hd1 : s.drop (s.length - r1.length) = r1 := suf_drop ((listA_ok hr1).2.2)
    have HD1 := Lib.hid hd1
    have HH1 := Lib.hid hr1
    clear hd1
    have hq1 : s.length - r1.length ≤ s.length := Nat.sub_le _ _
    have HAF1 : Hid (∀ w9, w2.grownBy w9 (some b) → Blk w9 bo 44 #[.int .i64 (m : Int), .slice none 0 0, .slice none 0 0, .slice none 0 0, .slice none 0 0, .slice none 0 0, .slice none 0 0, .slice none 0 0, .slice none 0 0, .slice none 0 0, .slice none 0 0] ∧ w9.frozen? ⟨bo, 1, none⟩ = false ∧ w9.cell? ⟨bo, 1, none⟩ = some (.slice none 0 0)) := Lib.hid (fun w9 hg => by
      have h9 : Blk w9 bo 44 _ := (hg.block bo hz1 (fun e => by injection e with e; omega)).trans HX2.out
      exact ⟨h9, Blk.frozen h9 _, h9.cell 1⟩)
    clear hr1
    go_upto_region 3 with (go_at_call 56; refine HC1.out.mono ?_; rintro e v1 ⟨hg, he⟩; obtain ⟨g1, l1, _, rfl, e1, e2, e3⟩ := he; have HG1 := Lib.hid hg; have HGE1 := Lib.hid e1; have HN1 := Lib.hid e2; have HRD1 := Lib.hid e3; obtain ⟨_, f9, c9⟩ := HAF1.out v1 hg; clear hg e1 e2 e3)
    obtain ⟨u1, hu1⟩ : ∃ x, v1.setCell ⟨bo, 1, none⟩ (.slice (some ⟨g1, 0, none⟩) x1.length x1.length) = x := ⟨_, rfl⟩
    have HX1n : Hid (Blk u1 bo 44 #[.int .i64 (m : Int), .slice (some ⟨g1, 0, none⟩) x1.length x1.length, .slice none 0 0, .slice none 0 0, .slice none 0 0, .slice none 0 0, .slice none 0 0, .slice none 0 0, .slice none 0 0, .slice none 0 0, .slice none 0 0]) := Lib.hid (by rw [← hu1]; exact Blk.set_ (HAF1.out v1 HG1.out).1 1 (.slice (some ⟨g1, 0, none⟩) x1.length x1.length))
    have HS1 : Hid (B3 b bo bo v1 u1) := Lib.hid (by rw [← hu1]; exact B3.of_set _ _)
    have HB1n : Hid (B3 b bo bo w u1) := Lib.hid ((HB2.out.trans (B3.of_grown HG1.out)).trans HS1.out)
    have HBR1n : Hid (B3 b bo bo w2 u1) := Lib.hid ((HBR2.out.trans (B3.of_grown HG1.out)).trans HS1.out)
    have HR1n : Hid (Rd u1 b s (s.length - r1.length) l1) := Lib.hid (by rw [← hu1]; exact Blk.far HRD1.out (by show b ≠ bo; omega) _)
    have HGN1 : Hid (B3 b bo bo w2 v1) := Lib.hid (B3.of_grown HG1.out)
    have hbg1 : bo < g1 := by have := HGE1.out; omega
    rw [hu1]
    clear hu1 f9 c9 c1 HC1 HAF1 HRD1 HX2 HR2 hz1
    have c2 : u1.cell? ⟨gc, 2, none⟩ = some (.int .i64 (n2 : Int)) := Nums.cell (HB1n.out.blk HCT.out hgc (by omega) (by omega)) (by simp [intsA])
    have HC2 := Lib.hid (latches_any u1 B b s (s.length - r1.length) l1 n2 HR1n.out hq1 hs h2 (HLB.out.on (HB1n.out.below hB (by omega) (by omega) (by omega))) hB)
    have hz2 : bo < u1.heap.size := Blk.lt HX1n.out
    cases hr2 : latchA n2 (s.drop (s.length - r1.length)) with
    | error kk =>
      rw [hr2] at HC2
      rw [HD1.out] at hr2
      have HE : Hid (q = .error kk) := Lib.hid (by rw [← HQ.out]; simp [bodyA, HH1.out, hr2])
      clear hr2
      go_wp2_with (go_at_call 57; refine HC2.out.mono ?_; rintro e w9 ⟨hg, he⟩; have he2 : e = pan ((s.length - kk : Nat) : Int) 42 := he; subst he2; have HG := Lib.hid ((HB1n.out.trans (B3.of_grown hg)).grown (by omega) (by omega)); clear hg he)
      refine ⟨rfl, HG.out, ?_⟩
      rw [HE.out]
      rfl
    | ok y =>
      obtain ⟨x2, r2⟩ := y
      rw [hr2] at HC2
      have hd2 : s.drop (s.length - r2.length) = r2 := suf_drop ((latchA_ok hr2).2)
      rw [HD1.out] at hr2
      have HD2 := Lib.hid hd2
      have HH2 := Lib.hid hr2
      clear hd2
      have hq2 : s.length - r2.length ≤ s.length := Nat.sub_le _ _
      have HAF2 : Hid (∀ w9, u1.grownBy w9 (some b) → Blk w9 bo 44 #[.int .i64 (m : Int), .slice (some ⟨g1, 0, none⟩) x1.length x1.length, .slice none 0 0, .slice none 0 0, .slice none 0 0, .slice none 0 0, .slice none 0 0, .slice none 0 0, .slice none 0 0, .slice none 0 0, .slice none 0 0] ∧ w9.frozen? ⟨bo, 2, none⟩ = false ∧ w9.cell? ⟨bo, 2, none⟩ = some (.slice none 0 0)) := Lib.hid (fun w9 hg => by
        have h9 : Blk w9 bo 44 _ := (hg.block bo hz2 (fun e => by injection e with e; omega)).trans HX1n.out
        exact ⟨h9, Blk.frozen h9 _, h9.cell 2⟩)
      clear hr2
      go_upto_region 4 with (go_at_call 57; refine HC2.out.mono ?_; rintro e v2 ⟨hg, he⟩; obtain ⟨g2, l2, rfl, e1, e2, e3⟩ := he; have HG2 := Lib.hid hg; have HGE2 := Lib.hid e1; have HN2 := Lib.hid e2; have HRD2 := Lib.hid e3; obtain ⟨_, f9, c9⟩ := HAF2.out v2 hg; clear hg e1 e2 e3)
      obtain ⟨u2, hu2⟩ : ∃ x, v2.setCell ⟨bo, 2, none⟩ (.slice (some ⟨g2, 0, none⟩) x2.length x2.length) = x := ⟨_, rfl⟩
      have HX2n : Hid (Blk u2 bo 44 #[.int .i64 (m : Int), .slice (some ⟨g1, 0, none⟩) x1.length x1.length, .slice (some ⟨g2, 0, none⟩) x2.length x2.length, .slice none 0 0, .slice none 0 0, .slice none 0 0, .slice none 0 0, .slice none 0 0, .slice none 0 0, .slice none 0 0, .slice none 0 0]) := Lib.hid (by rw [← hu2]; exact Blk.set_ (HAF2.out v2 HG2.out).1 2 (.slice (some ⟨g2, 0, none⟩) x2.length x2.length))
      have HS2 : Hid (B3 b bo bo v2 u2) := Lib.hid (by rw [← hu2]; exact B3.of_set _ _)
      have HB2n : Hid (B3 b bo bo w u2) := Lib.hid ((HB1n.out.trans (B3.of_grown HG2.out)).trans HS2.out)
      have HBR2n : Hid (B3 b bo bo w2 u2) := Lib.hid ((HBR1n.out.trans (B3.of_grown HG2.out)).trans HS2.out)
      have HR2n : Hid (Rd u2 b s (s.length - r2.length) l2) := Lib.hid (by rw [← hu2]; exact Blk.far HRD2.out (by show b ≠ bo; omega) _)
      have HGN2 : Hid (B3 b bo bo u1 v2) := Lib.hid (B3.of_grown HG2.out)
      have hbg2 : bo < g2 := by have := HGE2.out; omega
      rw [hu2]
      clear hu2 f9 c9 c2 HC2 HAF2 HRD2 HX1n HR1n hz2
      have c3 : u2.cell? ⟨gc, 3, none⟩ = some (.int .i64 (n3 : Int)) := Nums.cell (HB2n.out.blk HCT.out hgc (by omega) (by omega)) (by simp [intsA])
      have HC3 := Lib.hid (literals_any u2 B b s (s.length - r2.length) l2 n3 HR2n.out hq2 hs h3 (HLB.out.on (HB2n.out.below hB (by omega) (by omega) (by omega))) hB)
      have hz3 : bo < u2.heap.size := Blk.lt HX2n.out
      cases hr3 : listA 2147483647 n3 (s.drop (s.length - r2.length)) with
      | error kk =>
        rw [hr3] at HC3
        rw [HD2.out] at hr3
        have HE : Hid (q = .error kk) := Lib.hid (by rw [← HQ.out]; simp [bodyA, HH1.out, HH2.out, hr3])
        clear hr3
        go_wp2_with (go_at_call 56; refine HC3.out.mono ?_; rintro e w9 ⟨hg, he⟩; have he2 : e = pan ((s.length - kk : Nat) : Int) 42 := he; subst he2; have HG := Lib.hid ((HB2n.out.trans (B3.of_grown hg)).grown (by omega) (by omega)); clear hg he)
        refine ⟨rfl, HG.out, ?_⟩
        rw [HE.out]
        rfl
      | ok y =>
        obtain ⟨x3, r3⟩ := y
        rw [hr3] at HC3
        have hd3 : s.drop (s.length - r3.length) = r3 := suf_drop ((listA_ok hr3).2.2)
        rw [HD2.out] at hr3
        have HD3 := Lib.hid hd3
        have HH3 := Lib.hid hr3
        clear hd3
        have hq3 : s.length - r3.length ≤ s.length := Nat.sub_le _ _
        have HAF3 : Hid (∀ w9, u2.grownBy w9 (some b) → Blk w9 bo 44 #[.int .i64 (m : Int), .slice (some ⟨g1, 0, none⟩) x1.length x1.length, .slice (some ⟨g2, 0, none⟩) x2.length x2.length, .slice none 0 0, .slice none 0 0, .slice none 0 0, .slice none 0 0, .slice none 0 0, .slice none 0 0, .slice none 0 0, .slice none 0 0] ∧ w9.frozen? ⟨bo, 3, none⟩ = false ∧ w9.cell? ⟨bo, 3, none⟩ = some (.slice none 0 0)) := Lib.hid (fun w9 hg => by
          have h9 : Blk w9 bo 44 _ := (hg.block bo hz3 (fun e => by injection e with e; omega)).trans HX2n.out
          exact ⟨h9, Blk.frozen h9 _, h9.cell 3⟩)
        clear hr3
        go_upto_region 5 with (go_at_call 56; refine HC3.out.mono ?_; rintro e v3 ⟨hg, he⟩; obtain ⟨g3, l3, _, rfl, e1, e2, e3⟩ := he; have HG3 := Lib.hid hg; have HGE3 := Lib.hid e1; have HN3 := Lib.hid e2; have HRD3 := Lib.hid e3; obtain ⟨_, f9, c9⟩ := HAF3.out v3 hg; clear hg e1 e2 e3)
        obtain ⟨u3, hu3⟩ : ∃ x, v3.setCell ⟨bo, 3, none⟩ (.slice (some ⟨g3, 0, none⟩) x3.length x3.length) = x := ⟨_, rfl⟩
        have HX3n : Hid (Blk u3 bo 44 #[.int .i64 (m : Int), .slice (some ⟨g1, 0, none⟩) x1.length x1.length, .slice (some ⟨g2, 0, none⟩) x2.length x2.length, .slice (some ⟨g3, 0, none⟩) x3.length x3.length, .slice none 0 0, .slice none 0 0, .slice none 0 0, .slice none 0 0, .slice none 0 0, .slice none 0 0, .slice none 0 0]) := Lib.hid (by rw [← hu3]; exact Blk.set_ (HAF3.out v3 HG3.out).1 3 (.slice (some ⟨g3, 0, none⟩) x3.length x3.length))
        have HS3 : Hid (B3 b bo bo v3 u3) := Lib.hid (by rw [← hu3]; exact B3.of_set _ _)
        have HB3n : Hid (B3 b bo bo w u3) := Lib.hid ((HB2n.out.trans (B3.of_grown HG3.out)).trans HS3.out)
        have HBR3n : Hid (B3 b bo bo w2 u3) := Lib.hid ((HBR2n.out.trans (B3.of_grown HG3.out)).trans HS3.out)
        have HR3n : Hid (Rd u3 b s (s.length - r3.length) l3) := Lib.hid (by rw [← hu3]; exact Blk.far HRD3.out (by show b ≠ bo; omega) _)
        have HGN3 : Hid (B3 b bo bo u2 v3) := Lib.hid (B3.of_grown HG3.out)
        have hbg3 : bo < g3 := by have := HGE3.out; omega
        rw [hu3]
        clear hu3 f9 c9 c3 HC3 HAF3 HRD3 HX2n HR2n hz3
        have c4 : u3.cell? ⟨gc, 5, none⟩ = some (.int .i64 (n5 : Int)) := Nums.cell (HB3n.out.blk HCT.out hgc (by omega) (by omega)) (by simp [intsA])
        have HC4 := Lib.hid (literals_any u3 B b s (s.length - r3.length) l3 n5 HR3n.out hq3 hs h5 (HLB.out.on (HB3n.out.below hB (by omega) (by omega) (by omega))) hB)
        have hz4 : bo < u3.heap.size := Blk.lt HX3n.out
        cases hr4 : listA 2147483647 n5 (s.drop (s.length - r3.length)) with
        | error kk =>
          rw [hr4] at HC4
          rw [HD3.out] at hr4
          have HE : Hid (q = .error kk) := Lib.hid (by rw [← HQ.out]; simp [bodyA, HH1.out, HH2.out, HH3.out, hr4])
          clear hr4
          go_wp2_with (go_at_call 56; refine HC4.out.mono ?_; rintro e w9 ⟨hg, he⟩; have he2 : e = pan ((s.length - kk : Nat) : Int) 42 := he; subst he2; have HG := Lib.hid ((HB3n.out.trans (B3.of_grown hg)).grown (by omega) (by omega)); clear hg he)
          refine ⟨rfl, HG.out, ?_⟩
          rw [HE.out]
          rfl
        | ok y =>
          obtain ⟨x4, r4⟩ := y
          rw [hr4] at HC4
          have hd4 : s.drop (s.length - r4.length) = r4 := suf_drop ((listA_ok hr4).2.2)
          rw [HD3.out] at hr4
          have HD4 := Lib.hid hd4
          have HH4 := Lib.hid hr4
          clear hd4
          have hq4 : s.length - r4.length ≤ s.length := Nat.sub_le _ _
          have HAF4 : Hid (∀ w9, u3.grownBy w9 (some b) → Blk w9 bo 44 #[.int .i64 (m : Int), .slice (some ⟨g1, 0, none⟩) x1.length x1.length, .slice (some ⟨g2, 0, none⟩) x2.length x2.length, .slice (some ⟨g3, 0, none⟩) x3.length x3.length, .slice none 0 0, .slice none 0 0, .slice none 0 0, .slice none 0 0, .slice none 0 0, .slice none 0 0, .slice none 0 0] ∧ w9.frozen? ⟨bo, 4, none⟩ = false ∧ w9.cell? ⟨bo, 4, none⟩ = some (.slice none 0 0)) := Lib.hid (fun w9 hg => by
            have h9 : Blk w9 bo 44 _ := (hg.block bo hz4 (fun e => by injection e with e; omega)).trans HX3n.out
            exact ⟨h9, Blk.frozen h9 _, h9.cell 4⟩)
          clear hr4
          go_upto_region 6 with (go_at_call 56; refine HC4.out.mono ?_; rintro e v4 ⟨hg, he⟩; obtain ⟨g4, l4, _, rfl, e1, e2, e3⟩ := he; have HG4 := Lib.hid hg; have HGE4 := Lib.hid e1; have HN4 := Lib.hid e2; have HRD4 := Lib.hid e3; obtain ⟨_, f9, c9⟩ := HAF4.out v4 hg; clear hg e1 e2 e3)
          obtain ⟨u4, hu4⟩ : ∃ x, v4.setCell ⟨bo, 4, none⟩ (.slice (some ⟨g4, 0, none⟩) x4.length x4.length) = x := ⟨_, rfl⟩
          have HX4n : Hid (Blk u4 bo 44 #[.int .i64 (m : Int), .slice (some ⟨g1, 0, none⟩) x1.length x1.length, .slice (some ⟨g2, 0, none⟩) x2.length x2.length, .slice (some ⟨g3, 0, none⟩) x3.length x3.length, .slice (some ⟨g4, 0, none⟩) x4.length x4.length, .slice none 0 0, .slice none 0 0, .slice none 0 0, .slice none 0 0, .slice none 0 0, .slice none 0 0]) := Lib.hid (by rw [← hu4]; exact Blk.set_ (HAF4.out v4 HG4.out).1 4 (.slice (some ⟨g4, 0, none⟩) x4.length x4.length))
          have HS4 : Hid (B3 b bo bo v4 u4) := Lib.hid (by rw [← hu4]; exact B3.of_set _ _)
          have HB4n : Hid (B3 b bo bo w u4) := Lib.hid ((HB3n.out.trans (B3.of_grown HG4.out)).trans HS4.out)
          have HBR4n : Hid (B3 b bo bo w2 u4) := Lib.hid ((HBR3n.out.trans (B3.of_grown HG4.out)).trans HS4.out)
          have HR4n : Hid (Rd u4 b s (s.length - r4.length) l4) := Lib.hid (by rw [← hu4]; exact Blk.far HRD4.out (by show b ≠ bo; omega) _)
          have HGN4 : Hid (B3 b bo bo u3 v4) := Lib.hid (B3.of_grown HG4.out)
          have hbg4 : bo < g4 := by have := HGE4.out; omega
          rw [hu4]
          clear hu4 f9 c9 c4 HC4 HAF4 HRD4 HX3n HR3n hz4
          have c5 : u4.cell? ⟨gc, 6, none⟩ = some (.int .i64 (n6 : Int)) := Nums.cell (HB4n.out.blk HCT.out hgc (by omega) (by omega)) (by simp [intsA])
          have HC5 := Lib.hid (literals_any u4 B b s (s.length - r4.length) l4 n6 HR4n.out hq4 hs h6 (HLB.out.on (HB4n.out.below hB (by omega) (by omega) (by omega))) hB)
          have hz5 : bo < u4.heap.size := Blk.lt HX4n.out
          cases hr5 : listA 2147483647 n6 (s.drop (s.length - r4.length)) with
          | error kk =>
            rw [hr5] at HC5
            rw [HD4.out] at hr5
            have HE : Hid (q = .error kk) := Lib.hid (by rw [← HQ.out]; simp [bodyA, HH1.out, HH2.out, HH3.out, HH4.out, hr5])
            clear hr5
            go_wp2_with (go_at_call 56; refine HC5.out.mono ?_; rintro e w9 ⟨hg, he⟩; have he2 : e = pan ((s.length - kk : Nat) : Int) 42 := he; subst he2; have HG := Lib.hid ((HB4n.out.trans (B3.of_grown hg)).grown (by omega) (by omega)); clear hg he)
            refine ⟨rfl, HG.out, ?_⟩
            rw [HE.out]
            rfl
          | ok y =>
            obtain ⟨x5, r5⟩ := y
            rw [hr5] at HC5
            have hd5 : s.drop (s.length - r5.length) = r5 := suf_drop ((listA_ok hr5).2.2)
            rw [HD4.out] at hr5
            have HD5 := Lib.hid hd5
            have HH5 := Lib.hid hr5
            clear hd5
            have hq5 : s.length - r5.length ≤ s.length := Nat.sub_le _ _
            have HAF5 : Hid (∀ w9, u4.grownBy w9 (some b) → Blk w9 bo 44 #[.int .i64 (m : Int), .slice (some ⟨g1, 0, none⟩) x1.length x1.length, .slice (some ⟨g2, 0, none⟩) x2.length x2.length, .slice (some ⟨g3, 0, none⟩) x3.length x3.length, .slice (some ⟨g4, 0, none⟩) x4.length x4.length, .slice none 0 0, .slice none 0 0, .slice none 0 0, .slice none 0 0, .slice none 0 0, .slice none 0 0] ∧ w9.frozen? ⟨bo, 5, none⟩ = false ∧ w9.cell? ⟨bo, 5, none⟩ = some (.slice none 0 0)) := Lib.hid (fun w9 hg => by
              have h9 : Blk w9 bo 44 _ := (hg.block bo hz5 (fun e => by injection e with e; omega)).trans HX4n.out
              exact ⟨h9, Blk.frozen h9 _, h9.cell 5⟩)
            clear hr5
            go_upto_region 7 with (go_at_call 56; refine HC5.out.mono ?_; rintro e v5 ⟨hg, he⟩; obtain ⟨g5, l5, _, rfl, e1, e2, e3⟩ := he; have HG5 := Lib.hid hg; have HGE5 := Lib.hid e1; have HN5 := Lib.hid e2; have HRD5 := Lib.hid e3; obtain ⟨_, f9, c9⟩ := HAF5.out v5 hg; clear hg e1 e2 e3)
            obtain ⟨u5, hu5⟩ : ∃ x, v5.setCell ⟨bo, 5, none⟩ (.slice (some ⟨g5, 0, none⟩) x5.length x5.length) = x := ⟨_, rfl⟩
            have HX5n : Hid (Blk u5 bo 44 #[.int .i64 (m : Int), .slice (some ⟨g1, 0, none⟩) x1.length x1.length, .slice (some ⟨g2, 0, none⟩) x2.length x2.length, .slice (some ⟨g3, 0, none⟩) x3.length x3.length, .slice (some ⟨g4, 0, none⟩) x4.length x4.length, .slice (some ⟨g5, 0, none⟩) x5.length x5.length, .slice none 0 0, .slice none 0 0, .slice none 0 0, .slice none 0 0, .slice none 0 0]) := Lib.hid (by rw [← hu5]; exact Blk.set_ (HAF5.out v5 HG5.out).1 5 (.slice (some ⟨g5, 0, none⟩) x5.length x5.length))
            have HS5 : Hid (B3 b bo bo v5 u5) := Lib.hid (by rw [← hu5]; exact B3.of_set _ _)
            have HB5n : Hid (B3 b bo bo w u5) := Lib.hid ((HB4n.out.trans (B3.of_grown HG5.out)).trans HS5.out)
            have HBR5n : Hid (B3 b bo bo w2 u5) := Lib.hid ((HBR4n.out.trans (B3.of_grown HG5.out)).trans HS5.out)
            have HR5n : Hid (Rd u5 b s (s.length - r5.length) l5) := Lib.hid (by rw [← hu5]; exact Blk.far HRD5.out (by show b ≠ bo; omega) _)
            have HGN5 : Hid (B3 b bo bo u4 v5) := Lib.hid (B3.of_grown HG5.out)
            have hbg5 : bo < g5 := by have := HGE5.out; omega
            rw [hu5]
            clear hu5 f9 c9 c5 HC5 HAF5 HRD5 HX4n HR4n hz5
            have c6 : u5.cell? ⟨gc, 7, none⟩ = some (.int .i64 (n7 : Int)) := Nums.cell (HB5n.out.blk HCT.out hgc (by omega) (by omega)) (by simp [intsA])
            have HC6 := Lib.hid (justice_any u5 B b s (s.length - r5.length) l5 n7 HR5n.out hq5 hs h7 (HLB.out.on (HB5n.out.below hB (by omega) (by omega) (by omega))) hB)
            have hz6 : bo < u5.heap.size := Blk.lt HX5n.out
            cases hr6 : justA n7 (s.drop (s.length - r5.length)) with
            | error kk =>
              rw [hr6] at HC6
              rw [HD5.out] at hr6
              have HE : Hid (q = .error kk) := Lib.hid (by rw [← HQ.out]; simp [bodyA, HH1.out, HH2.out, HH3.out, HH4.out, HH5.out, hr6])
              clear hr6
              go_wp2_with (go_at_call 58; refine HC6.out.mono ?_; rintro e w9 ⟨hg, he⟩; have he2 : e = pan ((s.length - kk : Nat) : Int) 42 := he; subst he2; have HG := Lib.hid ((HB5n.out.trans (B3.of_grown hg)).grown (by omega) (by omega)); clear hg he)
              refine ⟨rfl, HG.out, ?_⟩
              rw [HE.out]
              rfl
            | ok y =>
              obtain ⟨x6, r6⟩ := y
              rw [hr6] at HC6
              have hd6 : s.drop (s.length - r6.length) = r6 := suf_drop ((justA_ok hr6).2)
              rw [HD5.out] at hr6
              have HD6 := Lib.hid hd6
              have HH6 := Lib.hid hr6
              clear hd6
              have hq6 : s.length - r6.length ≤ s.length := Nat.sub_le _ _
              have HAF6 : Hid (∀ w9, u5.grownBy w9 (some b) → Blk w9 bo 44 #[.int .i64 (m : Int), .slice (some ⟨g1, 0, none⟩) x1.length x1.length, .slice (some ⟨g2, 0, none⟩) x2.length x2.length, .slice (some ⟨g3, 0, none⟩) x3.length x3.length, .slice (some ⟨g4, 0, none⟩) x4.length x4.length, .slice (some ⟨g5, 0, none⟩) x5.length x5.length, .slice none 0 0, .slice none 0 0, .slice none 0 0, .slice none 0 0, .slice none 0 0] ∧ w9.frozen? ⟨bo, 6, none⟩ = false ∧ w9.cell? ⟨bo, 6, none⟩ = some (.slice none 0 0)) := Lib.hid (fun w9 hg => by
                have h9 : Blk w9 bo 44 _ := (hg.block bo hz6 (fun e => by injection e with e; omega)).trans HX5n.out
                exact ⟨h9, Blk.frozen h9 _, h9.cell 6⟩)
              clear hr6
              go_upto_region 8 with (go_at_call 58; refine HC6.out.mono ?_; rintro e v6 ⟨hg, he⟩; obtain ⟨g6, gs, l6, rfl, e1, e2, e4, e3⟩ := he; have HG6 := Lib.hid hg; have HGE6 := Lib.hid e1; have HN6 := Lib.hid e2; have HJ6 := Lib.hid e4; have HRD6 := Lib.hid e3; obtain ⟨_, f9, c9⟩ := HAF6.out v6 hg; clear hg e1 e2 e3 e4)
              obtain ⟨u6, hu6⟩ : ∃ x, v6.setCell ⟨bo, 6, none⟩ (.slice (some ⟨g6, 0, none⟩) x6.length x6.length) = x := ⟨_, rfl⟩
              have HX6n : Hid (Blk u6 bo 44 #[.int .i64 (m : Int), .slice (some ⟨g1, 0, none⟩) x1.length x1.length, .slice (some ⟨g2, 0, none⟩) x2.length x2.length, .slice (some ⟨g3, 0, none⟩) x3.length x3.length, .slice (some ⟨g4, 0, none⟩) x4.length x4.length, .slice (some ⟨g5, 0, none⟩) x5.length x5.length, .slice (some ⟨g6, 0, none⟩) x6.length x6.length, .slice none 0 0, .slice none 0 0, .slice none 0 0, .slice none 0 0]) := Lib.hid (by rw [← hu6]; exact Blk.set_ (HAF6.out v6 HG6.out).1 6 (.slice (some ⟨g6, 0, none⟩) x6.length x6.length))
              have HS6 : Hid (B3 b bo bo v6 u6) := Lib.hid (by rw [← hu6]; exact B3.of_set _ _)
              have HB6n : Hid (B3 b bo bo w u6) := Lib.hid ((HB5n.out.trans (B3.of_grown HG6.out)).trans HS6.out)
              have HBR6n : Hid (B3 b bo bo w2 u6) := Lib.hid ((HBR5n.out.trans (B3.of_grown HG6.out)).trans HS6.out)
              have HR6n : Hid (Rd u6 b s (s.length - r6.length) l6) := Lib.hid (by rw [← hu6]; exact Blk.far HRD6.out (by show b ≠ bo; omega) _)
              have HGN6 : Hid (B3 b bo bo u5 v6) := Lib.hid (B3.of_grown HG6.out)
              have hbg6 : bo < g6 := by have := HGE6.out; omega
              rw [hu6]
              clear hu6 f9 c9 c6 HC6 HAF6 HRD6 HX5n HR5n hz6
              have c7 : u6.cell? ⟨gc, 8, none⟩ = some (.int .i64 (n8 : Int)) := Nums.cell (HB6n.out.blk HCT.out hgc (by omega) (by omega)) (by simp [intsA])
              have HC7 := Lib.hid (literals_any u6 B b s (s.length - r6.length) l6 n8 HR6n.out hq6 hs h8 (HLB.out.on (HB6n.out.below hB (by omega) (by omega) (by omega))) hB)
              have hz7 : bo < u6.heap.size := Blk.lt HX6n.out
              cases hr7 : listA 2147483647 n8 (s.drop (s.length - r6.length)) with
              | error kk =>
                rw [hr7] at HC7
                rw [HD6.out] at hr7
                have HE : Hid (q = .error kk) := Lib.hid (by rw [← HQ.out]; simp [bodyA, HH1.out, HH2.out, HH3.out, HH4.out, HH5.out, HH6.out, hr7])
                clear hr7
                go_wp2_with (go_at_call 56; refine HC7.out.mono ?_; rintro e w9 ⟨hg, he⟩; have he2 : e = pan ((s.length - kk : Nat) : Int) 42 := he; subst he2; have HG := Lib.hid ((HB6n.out.trans (B3.of_grown hg)).grown (by omega) (by omega)); clear hg he)
                refine ⟨rfl, HG.out, ?_⟩
                rw [HE.out]
                rfl
              | ok y =>
                obtain ⟨x7, r7⟩ := y
                rw [hr7] at HC7
                have hd7 : s.drop (s.length - r7.length) = r7 := suf_drop ((listA_ok hr7).2.2)
                rw [HD6.out] at hr7
                have HD7 := Lib.hid hd7
                have HH7 := Lib.hid hr7
                clear hd7
                have hq7 : s.length - r7.length ≤ s.length := Nat.sub_le _ _
                have HAF7 : Hid (∀ w9, u6.grownBy w9 (some b) → Blk w9 bo 44 #[.int .i64 (m : Int), .slice (some ⟨g1, 0, none⟩) x1.length x1.length, .slice (some ⟨g2, 0, none⟩) x2.length x2.length, .slice (some ⟨g3, 0, none⟩) x3.length x3.length, .slice (some ⟨g4, 0, none⟩) x4.length x4.length, .slice (some ⟨g5, 0, none⟩) x5.length x5.length, .slice (some ⟨g6, 0, none⟩) x6.length x6.length, .slice none 0 0, .slice none 0 0, .slice none 0 0, .slice none 0 0] ∧ w9.frozen? ⟨bo, 7, none⟩ = false ∧ w9.cell? ⟨bo, 7, none⟩ = some (.slice none 0 0)) := Lib.hid (fun w9 hg => by
                  have h9 : Blk w9 bo 44 _ := (hg.block bo hz7 (fun e => by injection e with e; omega)).trans HX6n.out
                  exact ⟨h9, Blk.frozen h9 _, h9.cell 7⟩)
                clear hr7
                go_upto_region 9 with (go_at_call 56; refine HC7.out.mono ?_; rintro e v7 ⟨hg, he⟩; obtain ⟨g7, l7, _, rfl, e1, e2, e3⟩ := he; have HG7 := Lib.hid hg; have HGE7 := Lib.hid e1; have HN7 := Lib.hid e2; have HRD7 := Lib.hid e3; obtain ⟨_, f9, c9⟩ := HAF7.out v7 hg; clear hg e1 e2 e3)
                obtain ⟨u7, hu7⟩ : ∃ x, v7.setCell ⟨bo, 7, none⟩ (.slice (some ⟨g7, 0, none⟩) x7.length x7.length) = x := ⟨_, rfl⟩
                have HX7n : Hid (Blk u7 bo 44 #[.int .i64 (m : Int), .slice (some ⟨g1, 0, none⟩) x1.length x1.length, .slice (some ⟨g2, 0, none⟩) x2.length x2.length, .slice (some ⟨g3, 0, none⟩) x3.length x3.length, .slice (some ⟨g4, 0, none⟩) x4.length x4.length, .slice (some ⟨g5, 0, none⟩) x5.length x5.length, .slice (some ⟨g6, 0, none⟩) x6.length x6.length, .slice (some ⟨g7, 0, none⟩) x7.length x7.length, .slice none 0 0, .slice none 0 0, .slice none 0 0]) := Lib.hid (by rw [← hu7]; exact Blk.set_ (HAF7.out v7 HG7.out).1 7 (.slice (some ⟨g7, 0, none⟩) x7.length x7.length))
                have HS7 : Hid (B3 b bo bo v7 u7) := Lib.hid (by rw [← hu7]; exact B3.of_set _ _)
                have HB7n : Hid (B3 b bo bo w u7) := Lib.hid ((HB6n.out.trans (B3.of_grown HG7.out)).trans HS7.out)
                have HBR7n : Hid (B3 b bo bo w2 u7) := Lib.hid ((HBR6n.out.trans (B3.of_grown HG7.out)).trans HS7.out)
                have HR7n : Hid (Rd u7 b s (s.length - r7.length) l7) := Lib.hid (by rw [← hu7]; exact Blk.far HRD7.out (by show b ≠ bo; omega) _)
                have HGN7 : Hid (B3 b bo bo u6 v7) := Lib.hid (B3.of_grown HG7.out)
                have hbg7 : bo < g7 := by have := HGE7.out; omega
                rw [hu7]
                clear hu7 f9 c9 c7 HC7 HAF7 HRD7 HX6n HR6n hz7
                have c8 : u7.cell? ⟨gc, 4, none⟩ = some (.int .i64 (n4 : Int)) := Nums.cell (HB7n.out.blk HCT.out hgc (by omega) (by omega)) (by simp [intsA])
                have HC8 := Lib.hid (gates_any u7 B b s (s.length - r7.length) l7 n4 HR7n.out hq7 hs h4 (HLB.out.on (HB7n.out.below hB (by omega) (by omega) (by omega))) hB)
                have hz8 : bo < u7.heap.size := Blk.lt HX7n.out
                cases hr8 : gateA n4 (s.drop (s.length - r7.length)) with
                | error kk =>
                  rw [hr8] at HC8
                  rw [HD7.out] at hr8
                  have HE : Hid (q = .error kk) := Lib.hid (by rw [← HQ.out]; simp [bodyA, HH1.out, HH2.out, HH3.out, HH4.out, HH5.out, HH6.out, HH7.out, hr8])
                  clear hr8
                  go_wp2_with (go_at_call 59; refine HC8.out.mono ?_; rintro e w9 ⟨hg, he⟩; have he2 : e = pan ((s.length - kk : Nat) : Int) 42 := he; subst he2; have HG := Lib.hid ((HB7n.out.trans (B3.of_grown hg)).grown (by omega) (by omega)); clear hg he)
                  refine ⟨rfl, HG.out, ?_⟩
                  rw [HE.out]
                  rfl
                | ok y =>
                  obtain ⟨x8, r8⟩ := y
                  rw [hr8] at HC8
                  have hd8 : s.drop (s.length - r8.length) = r8 := suf_drop ((gateA_ok hr8).2)
                  rw [HD7.out] at hr8
                  have HD8 := Lib.hid hd8
                  have HH8 := Lib.hid hr8
                  clear hd8
                  have hq8 : s.length - r8.length ≤ s.length := Nat.sub_le _ _
                  have HAF8 : Hid (∀ w9, u7.grownBy w9 (some b) → Blk w9 bo 44 #[.int .i64 (m : Int), .slice (some ⟨g1, 0, none⟩) x1.length x1.length, .slice (some ⟨g2, 0, none⟩) x2.length x2.length, .slice (some ⟨g3, 0, none⟩) x3.length x3.length, .slice (some ⟨g4, 0, none⟩) x4.length x4.length, .slice (some ⟨g5, 0, none⟩) x5.length x5.length, .slice (some ⟨g6, 0, none⟩) x6.length x6.length, .slice (some ⟨g7, 0, none⟩) x7.length x7.length, .slice none 0 0, .slice none 0 0, .slice none 0 0] ∧ w9.frozen? ⟨bo, 8, none⟩ = false ∧ w9.cell? ⟨bo, 8, none⟩ = some (.slice none 0 0)) := Lib.hid (fun w9 hg => by
                    have h9 : Blk w9 bo 44 _ := (hg.block bo hz8 (fun e => by injection e with e; omega)).trans HX7n.out
                    exact ⟨h9, Blk.frozen h9 _, h9.cell 8⟩)
                  clear hr8
                  go_upto_region 10 with (go_at_call 59; refine HC8.out.mono ?_; rintro e v8 ⟨hg, he⟩; obtain ⟨g8, l8, rfl, e1, e2, e3⟩ := he; have HG8 := Lib.hid hg; have HGE8 := Lib.hid e1; have HN8 := Lib.hid e2; have HRD8 := Lib.hid e3; obtain ⟨_, f9, c9⟩ := HAF8.out v8 hg; clear hg e1 e2 e3)
                  obtain ⟨u8, hu8⟩ : ∃ x, v8.setCell ⟨bo, 8, none⟩ (.slice (some ⟨g8, 0, none⟩) x8.length x8.length) = x := ⟨_, rfl⟩
                  have HX8n : Hid (Blk u8 bo 44 #[.int .i64 (m : Int), .slice (some ⟨g1, 0, none⟩) x1.length x1.length, .slice (some ⟨g2, 0, none⟩) x2.length x2.length, .slice (some ⟨g3, 0, none⟩) x3.length x3.length, .slice (some ⟨g4, 0, none⟩) x4.length x4.length, .slice (some ⟨g5, 0, none⟩) x5.length x5.length, .slice (some ⟨g6, 0, none⟩) x6.length x6.length, .slice (some ⟨g7, 0, none⟩) x7.length x7.length, .slice (some ⟨g8, 0, none⟩) x8.length x8.length, .slice none 0 0, .slice none 0 0]) := Lib.hid (by rw [← hu8]; exact Blk.set_ (HAF8.out v8 HG8.out).1 8 (.slice (some ⟨g8, 0, none⟩) x8.length x8.length))
                  have HS8 : Hid (B3 b bo bo v8 u8) := Lib.hid (by rw [← hu8]; exact B3.of_set _ _)
                  have HB8n : Hid (B3 b bo bo w u8) := Lib.hid ((HB7n.out.trans (B3.of_grown HG8.out)).trans HS8.out)
                  have HBR8n : Hid (B3 b bo bo w2 u8) := Lib.hid ((HBR7n.out.trans (B3.of_grown HG8.out)).trans HS8.out)
                  have HR8n : Hid (Rd u8 b s (s.length - r8.length) l8) := Lib.hid (by rw [← hu8]; exact Blk.far HRD8.out (by show b ≠ bo; omega) _)
                  have HGN8 : Hid (B3 b bo bo u7 v8) := Lib.hid (B3.of_grown HG8.out)
                  have hbg8 : bo < g8 := by have := HGE8.out; omega
                  rw [hu8]
                  clear hu8 f9 c9 c8 HC8 HAF8 HRD8 HX7n HR7n hz8
                  have HE : Hid (q = .ok (⟨(m : Int), intsA x1, x2.map triA, intsA x3, intsA x4, intsA x5, x6.map intsA, intsA x7, x8.map triA, [], []⟩, r8)) := Lib.hid (by rw [← HQ.out]; simp [bodyA, HH1.out, HH2.out, HH3.out, HH4.out, HH5.out, HH6.out, HH7.out, HH8.out])
                  have HRO : Hid (Blk u8 w.heap.size 44 circ0) := Lib.hid (HBR8n.out.blk HRB.out (by omega) (by omega) (by omega))
                  go_wp2_with (first
                    | (refine wpList_load_row rfl 44 (.tmp 5) rfl bo rfl 44 #[.int .i64 (m : Int), .slice (some ⟨g1, 0, none⟩) x1.length x1.length, .slice (some ⟨g2, 0, none⟩) x2.length x2.length, .slice (some ⟨g3, 0, none⟩) x3.length x3.length, .slice (some ⟨g4, 0, none⟩) x4.length x4.length, .slice (some ⟨g5, 0, none⟩) x5.length x5.length, .slice (some ⟨g6, 0, none⟩) x6.length x6.length, .slice (some ⟨g7, 0, none⟩) x7.length x7.length, .slice (some ⟨g8, 0, none⟩) x8.length x8.length, .slice none 0 0, .slice none 0 0] (0, 0) _ HX8n.out Tryd.underlying44 rfl (by kernel_rfl) ?_)
                    | (refine wpList_store_row rfl 44 (.tmp 4) (.tmp 58) rfl w.heap.size #[.int .i64 (m : Int), .slice (some ⟨g1, 0, none⟩) x1.length x1.length, .slice (some ⟨g2, 0, none⟩) x2.length x2.length, .slice (some ⟨g3, 0, none⟩) x3.length x3.length, .slice (some ⟨g4, 0, none⟩) x4.length x4.length, .slice (some ⟨g5, 0, none⟩) x5.length x5.length, .slice (some ⟨g6, 0, none⟩) x6.length x6.length, .slice (some ⟨g7, 0, none⟩) x7.length x7.length, .slice (some ⟨g8, 0, none⟩) x8.length x8.length, .slice none 0 0, .slice none 0 0] rfl rfl 44 _ HRO.out (by kernel_rfl) rfl (by simp [Value.oneCell']) ?_))
                  refine bodyPost_ret (results_cell_row (fn := Tryd.f32) rfl _ _ w.heap.size 44 #[.int .i64 (m : Int), .slice (some ⟨g1, 0, none⟩) x1.length x1.length, .slice (some ⟨g2, 0, none⟩) x2.length x2.length, .slice (some ⟨g3, 0, none⟩) x3.length x3.length, .slice (some ⟨g4, 0, none⟩) x4.length x4.length, .slice (some ⟨g5, 0, none⟩) x5.length x5.length, .slice (some ⟨g6, 0, none⟩) x6.length x6.length, .slice (some ⟨g7, 0, none⟩) x7.length x7.length, .slice (some ⟨g8, 0, none⟩) x8.length x8.length, .slice none 0 0, .slice none 0 0] (0, 0) _ rfl (setRow_heap _ _ _ #[.int .i64 (m : Int), .slice (some ⟨g1, 0, none⟩) x1.length x1.length, .slice (some ⟨g2, 0, none⟩) x2.length x2.length, .slice (some ⟨g3, 0, none⟩) x3.length x3.length, .slice (some ⟨g4, 0, none⟩) x4.length x4.length, .slice (some ⟨g5, 0, none⟩) x5.length x5.length, .slice (some ⟨g6, 0, none⟩) x6.length x6.length, .slice (some ⟨g7, 0, none⟩) x7.length x7.length, .slice (some ⟨g8, 0, none⟩) x8.length x8.length, .slice none 0 0, .slice none 0 0] _ _ HRO.out) Tryd.underlying44 rfl (by kernel_rfl)) rfl ?_
                  obtain ⟨uF, huF⟩ : ∃ x, u8.setRow w.heap.size #[.int .i64 (m : Int), .slice (some ⟨g1, 0, none⟩) x1.length x1.length, .slice (some ⟨g2, 0, none⟩) x2.length x2.length, .slice (some ⟨g3, 0, none⟩) x3.length x3.length, .slice (some ⟨g4, 0, none⟩) x4.length x4.length, .slice (some ⟨g5, 0, none⟩) x5.length x5.length, .slice (some ⟨g6, 0, none⟩) x6.length x6.length, .slice (some ⟨g7, 0, none⟩) x7.length x7.length, .slice (some ⟨g8, 0, none⟩) x8.length x8.length, .slice none 0 0, .slice none 0 0] = x := ⟨_, rfl⟩
                  have hF : B3 b bo w.heap.size u8 uF := by rw [← huF]; exact B3.of_row _
                  have k8 := HS8.out.weak.trans hF
                  have k7 := HS7.out.weak.trans (HGN8.out.weak.trans k8)
                  have k6 := HS6.out.weak.trans (HGN7.out.weak.trans k7)
                  have k5 := HS5.out.weak.trans (HGN6.out.weak.trans k6)
                  have k4 := HS4.out.weak.trans (HGN5.out.weak.trans k5)
                  have k3 := HS3.out.weak.trans (HGN4.out.weak.trans k4)
                  have k2 := HS2.out.weak.trans (HGN3.out.weak.trans k3)
                  have k1 := HS1.out.weak.trans (HGN2.out.weak.trans k2)
                  rw [huF]
                  refine ⟨(HB8n.out.weak.trans hF).grown (by omega) (Nat.le_refl _), ?_⟩
                  rw [HE.out]
                  refine ⟨⟨.slice (some ⟨g1, 0, none⟩) x1.length x1.length, .slice (some ⟨g2, 0, none⟩) x2.length x2.length, .slice (some ⟨g3, 0, none⟩) x3.length x3.length, .slice (some ⟨g4, 0, none⟩) x4.length x4.length, .slice (some ⟨g5, 0, none⟩) x5.length x5.length, .slice (some ⟨g6, 0, none⟩) x6.length x6.length, .slice (some ⟨g7, 0, none⟩) x7.length x7.length, .slice (some ⟨g8, 0, none⟩) x8.length x8.length, .slice none 0 0, .slice none 0 0⟩, l8, x1, x2, x3, x4, x5, x6, x7, x8, rfl, rfl, ?_, ?_⟩
                  · exact ⟨⟨g1, rfl, by omega, k1.blk HN1.out (by omega) (by omega) (by omega)⟩, ⟨g2, rfl, by omega, k2.blk HN2.out (by omega) (by omega) (by omega)⟩, ⟨g3, rfl, by omega, k3.blk HN3.out (by omega) (by omega) (by omega)⟩, ⟨g4, rfl, by omega, k4.blk HN4.out (by omega) (by omega) (by omega)⟩, ⟨g5, rfl, by omega, k5.blk HN5.out (by omega) (by omega) (by omega)⟩, ⟨g6, gs, rfl, by omega, k6.blk HN6.out (by omega) (by omega) (by omega), k6.inn HJ6.out (by omega) (by omega) (by omega)⟩, ⟨g7, rfl, by omega, k7.blk HN7.out (by omega) (by omega) (by omega)⟩, ⟨g8, rfl, by omega, k8.blk HN8.out (by omega) (by omega) (by omega)⟩, rfl, rfl⟩
                  · rw [← huF]
                    exact (setRow_other _ _ _ _ (by omega)).trans HR8n.out
end Go.Proofs.YtkkolefhfmlhfabDoor
