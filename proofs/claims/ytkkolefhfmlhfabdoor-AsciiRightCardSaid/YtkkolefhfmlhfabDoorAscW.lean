/- Ascii: Read, whole. -/
import Derived.Test.YtkkolefhfmlhfabDoorAscV
namespace Go.Proofs.YtkkolefhfmlhfabDoor
open Go.RowKit

theorem head_inv {s wd r : Bs} {c : List Nat} (h : headA s = .ok (wd, c, r)) : (∃ l, lineA s = some (l, r)) ∧ (wd = aagW ∨ wd = aigW) ∧ c.length = 9 ∧ badC c = false := by
  cases hl : lineA s with
  | none => rw [headA_none hl] at h; cases h
  | some y =>
    obtain ⟨l, r1⟩ := y
    cases hn : numbersA 5 9 (cutS l).2 with
    | none => rw [headA_nums hl hn] at h; cases h
    | some ns =>
      by_cases hw : (cutS l).1 = aagW ∨ (cutS l).1 = aigW
      · rw [headA_ok hl hw hn] at h
        cases hb : badC (nine ns) with
        | true => rw [hb] at h; simp at h
        | false =>
          rw [hb] at h
          simp only [Bool.false_eq_true, if_false, Except.ok.injEq, Prod.mk.injEq] at h
          obtain ⟨e1, e2, e3⟩ := h
          refine ⟨⟨l, by rw [e3]⟩, by rw [← e1]; exact hw, ?_, by rw [← e2]; exact hb⟩
          rw [← e2]
          have := numbersA_ok hn
          simp [nine]; omega
      · rw [headA_word hl hw] at h; cases h
theorem badC_le {c : List Nat} (h : badC c = false) : ∀ x ∈ c, x ≤ 16384 := fun x hx => by
  unfold badC at h
  simp only [Bool.or_eq_false_iff, List.any_eq_false, decide_eq_true_eq] at h
  have := h.1 x hx
  omega
theorem nine_list {c : List Nat} (h : c.length = 9) : ∃ m n1 n2 n3 n4 n5 n6 n7 n8, c = [m, n1, n2, n3, n4, n5, n6, n7, n8] := by
  match c, h with
  | [m, n1, n2, n3, n4, n5, n6, n7, n8], _ => exact ⟨_, _, _, _, _, _, _, _, _, rfl⟩
theorem intsA_inj {x y : List Nat} (h : intsA x = intsA y) : x = y := (List.map_inj_right (fun a b h => by have h9 : (a : Int) = (b : Int) := h; omega)).1 h
theorem triA_inj {x y : List (Nat × Nat × Nat)} (h : x.map triA = y.map triA) : x = y := (List.map_inj_right (fun a b h => by
  obtain ⟨a1, a2, a3⟩ := a
  obtain ⟨b1, b2, b3⟩ := b
  simp only [triA, Prod.mk.injEq] at h ⊢
  omega)).1 h
theorem justI_inj {x y : List (List Nat)} (h : x.map intsA = y.map intsA) : x = y := (List.map_inj_right (fun _a _b h => intsA_inj h)).1 h
theorem circA_body {s r : Bs} {c : List Nat} {k : Nat} (hs : s.length ≤ 262144) (h : headA s = .ok (aagW, c, r)) (h2 : bodyA c r = .error k) : circA s = .error (s.length - k, 42) := by
  have hn : ¬ 262144 < s.length := by omega
  simp only [circA, if_neg hn, h, ne_eq, not_true_eq_false, if_false, h2]
theorem circA_tail {s r r1 : Bs} {c : List Nat} {C : Circ} {k : Nat} (hs : s.length ≤ 262144) (h : headA s = .ok (aagW, c, r)) (h2 : bodyA c r = .ok (C, r1)) (h3 : tailP r1 = .error k) : circA s = .error (s.length - k, 42) := by
  have hn : ¬ 262144 < s.length := by omega
  unfold tailP at h3
  simp only [circA, if_neg hn, h, ne_eq, not_true_eq_false, if_false, h2, h3]
theorem circA_ok {s r r1 : Bs} {c : List Nat} {C : Circ} {ss : List SyA} {ls : List Bs} (hs : s.length ≤ 262144) (h : headA s = .ok (aagW, c, r)) (h2 : bodyA c r = .ok (C, r1)) (h3 : tailP r1 = .ok (ss, ls)) : circA s = .ok { C with symbols := ss.map symS, comments := ls.map strB } := by
  have hn : ¬ 262144 < s.length := by omega
  unfold tailP at h3
  simp only [circA, if_neg hn, h, ne_eq, not_true_eq_false, if_false, h2, h3]
theorem below_gbA {B g : Nat} {a w w1 : World} (h : Below B a w) (hB : B ≤ a.heap.size) (hg : B ≤ g) (h2 : w.grownBy w1 (some g)) : Below B a w1 :=
  ⟨h2.os.trans h.os, h2.tape.trans h.tape, h2.output.trans h.output, Nat.le_trans h.size h2.size, fun k hk => (h2.block k (Nat.lt_of_lt_of_le (Nat.lt_of_lt_of_le hk hB) h.size) (fun e => by injection e with e; omega)).trans (h.block k hk)⟩
theorem CircM.mono {B B' : Nat} {w : World} {V : CV} {i o b c f : List Nat} {l a : List (Nat × Nat × Nat)} {j : List (List Nat)} (h : CircM B w V i l o b c j f a) (hB : B' ≤ B) : CircM B' w V i l o b c j f a := by
  obtain ⟨⟨g1, a1, b1, c1⟩, ⟨g2, a2, b2, c2⟩, ⟨g3, a3, b3, c3⟩, ⟨g4, a4, b4, c4⟩, ⟨g5, a5, b5, c5⟩, ⟨g6, gs, a6, b6, c6, d6⟩, ⟨g7, a7, b7, c7⟩, ⟨g8, a8, b8, c8⟩, zs, zt⟩ := h
  exact ⟨⟨g1, a1, by omega, c1⟩, ⟨g2, a2, by omega, c2⟩, ⟨g3, a3, by omega, c3⟩, ⟨g4, a4, by omega, c4⟩, ⟨g5, a5, by omega, c5⟩, ⟨g6, gs, a6, by omega, c6, d6⟩, ⟨g7, a7, by omega, c7⟩, ⟨g8, a8, by omega, c8⟩, zs, zt⟩

theorem BE.of_row {E : Nat → Prop} {w : World} {g : Nat} (cs : Array Value) (h : E g) : BE E w (w.setRow g cs) :=
  ⟨rfl, rfl, rfl, by rw [size_setRow]; exact Nat.le_refl _, fun k hk hE => setRow_other _ _ _ _ (fun e => hE (e ▸ h))⟩
theorem ReadM.be {E : Nat → Prop} {B : Nat} {w w' : World} {V : CV} {C : Circ} (h : ReadM B w V C) (hb : BE E w w') (hE : ∀ k, B ≤ k → k < w.heap.size → ¬ E k) : ReadM B w' V C := by
  obtain ⟨m, i, l, o, b, c, j, f, a, ss, ls, V0, rfl, h1, fit, h2, hm, hs, ht, hv⟩ := h
  exact ⟨m, i, l, o, b, c, j, f, a, ss, ls, V0, rfl, h1, fit, h2, hb.circ hm hE, hb.own hs hE, hb.own ht hE, hv⟩
theorem ReadM.mono {B B' : Nat} {w : World} {V : CV} {C : Circ} (h : ReadM B w V C) (hB : B' ≤ B) : ReadM B' w V C := by
  obtain ⟨m, i, l, o, b, c, j, f, a, ss, ls, V0, rfl, h1, fit, h2, hm, hs, ht, hv⟩ := h
  exact ⟨m, i, l, o, b, c, j, f, a, ss, ls, V0, rfl, h1, fit, h2, hm.mono hB, own_le hs hB, own_le ht hB, hv⟩
theorem below_BE {E : Nat → Prop} {B : Nat} {a w w1 : World} (h : Below B a w) (hB : B ≤ a.heap.size) (h2 : BE E w w1) (hE : ∀ k, k < B → ¬ E k) : Below B a w1 :=
  ⟨h2.os.trans h.os, h2.tape.trans h.tape, h2.output.trans h.output, Nat.le_trans h.size h2.size, fun k hk => (h2.block k (Nat.lt_of_lt_of_le (Nat.lt_of_lt_of_le hk hB) h.size) (hE k hk)).trans (h.block k hk)⟩

set_option maxHeartbeats 20000000 in
set_option maxRecDepth 100000 in
theorem Read_any (w : World) (B : Nat) (s : Bs) (hs : s.length ≤ 262144) (lib : LibB B w) (hB : B ≤ w.heap.size) :
    Calls Tryd.prog 16 #[.string (strB s)] w fun e w' => Below w.heap.size w w' ∧ ReadAns w s e w' := by
  have hmf : ∀ (fn : Fn) (first cap : Array Value) (wx : World), (Instr.makeFunc fn first cap).run Tryd.prog wx = .ok (.func fn first cap) wx := fun _ _ _ _ => rfl
  have HCS := Lib.hid (fun wx => checkSize_ok wx s hs)
  have HLB := Lib.hid lib
  obtain ⟨w2, hw2⟩ : ∃ x, (w.alloc (.cells circ0 44)).alloc (.cells #[.int .i64 0, .int .i64 0] 25) = x := ⟨_, rfl⟩
  have HW2 := Lib.hid hw2
  have hb2 : Below w.heap.size w w2 := by rw [← hw2]; exact ((Below.refl _ _).alloc (Nat.le_refl _) _).alloc (by simp) _
  have HB2 := Lib.hid hb2
  have HC2 : Hid (Blk w2 w.heap.size 44 circ0) := Lib.hid (by rw [← hw2]; exact (Blk.new w _ _).alloc _)
  have HF2 : Hid (Blk w2 (w.heap.size + 1) 25 #[.int .i64 0, .int .i64 0]) := Lib.hid (by
    have h9 := Blk.new (w.alloc (.cells circ0 44)) 25 #[.int .i64 0, .int .i64 0]
    rw [show (w.alloc (.cells circ0 44)).heap.size = w.heap.size + 1 by simp, hw2] at h9
    exact h9)
  have hs2 : w2.heap.size = w.heap.size + 2 := by rw [← hw2]; simp
  -- the door where reading was given up
  have HDO : Hid (∀ (tmps : Array Value) (wc : World) (k e : Int), tmps.getD 2 undef = .pointer (some ⟨w.heap.size, 0, none⟩) → tmps.getD 3 undef = .pointer (some ⟨w.heap.size + 1, 0, none⟩) → Below w2.heap.size w2 wc → (∀ x w', FaultE k e x → ReadAns w s x w') →
      bodyPostD Tryd.prog Tryd.f16 (fun e w' => Below w.heap.size w w' ∧ ReadAns w s e w') (Exit.panic [{ v := .iface 25 (.agg #[.int .i64 k, .int .i64 e]), recovered := false }]) { tmps := tmps, defers := [{ target := Target.fn (Fn.func 31) #[.pointer (some ⟨w.heap.size + 1, 0, none⟩)], args := #[] }] } wc) := Lib.hid (fun tmps wc k e h2 h3 hb hR =>
    read_door w tmps wc _ k e h2 h3 (bt HB2.out (Nat.le_refl _) hb) (HC2.out.below hb (by omega)) (HF2.out.below hb (by omega)) (fun x w' q1 q2 => ⟨q1, hR x w' q2⟩))
  have HHD := Lib.hid (header_any w2 B s hs (HLB.out.up hB hb2) (by omega))
  obtain ⟨q, hq⟩ : ∃ q, headA s = q := ⟨_, rfl⟩
  rw [hq] at HHD
  have HQ := Lib.hid hq
  clear hw2 hb2 lib hq
  cases q with
  | error k =>
    have HR : Hid (∀ x w', FaultE 0 k x → ReadAns w s x w') := Lib.hid (fun x w' h => by
      unfold ReadAns circA
      rw [if_neg (by omega), HQ.out]
      exact h)
    go_enter_defers Tryd.func16, Tryd.ntmps16
    go_upto_region 2 with (fail)
    (try rw [HW2.out])
    go_wp2_with (first
      | (go_at_call 22; refine (HCS.out _).mono ?_; rintro e w1 ⟨rfl, rfl⟩)
      | (go_at_call 23; refine HHD.out.mono ?_; rintro e w3 ⟨hb, he⟩; have he2 : e = pan 0 k := he; subst he2; have HB3 := Lib.hid hb; clear hb he))
    exact HDO.out _ _ 0 k rfl rfl HB3.out HR.out
  | ok y =>
    obtain ⟨wd, c, r⟩ := y
    obtain ⟨⟨l0, hl0⟩, hwd, hc9, hbad⟩ := head_inv HQ.out
    obtain ⟨m, n1, n2, n3, n4, n5, n6, n7, n8, rfl⟩ := nine_list hc9
    have hle := badC_le hbad
    have hd0 : s.drop (s.length - r.length) = r := (lineA_drop (p := 0) (by simpa using hl0)).1
    clear hl0 hc9 hbad
    have HE1 : Hid (wd ≠ aagW → circA s = .error (0, 40)) := Lib.hid (fun hne => by
      unfold circA
      rw [if_neg (by omega), HQ.out]
      simp only [if_pos hne])
    rcases hwd with rfl | rfl
    · have HHD2 : Hid (Calls Tryd.prog 23 #[.string (strB s)] w2 fun e w' => Below w2.heap.size w2 w' ∧ ∃ g, e = .returned (.tuple #[.string ⟨#[97, 97, 103]⟩, .slice (some ⟨g, 0, none⟩) 9 9, .int .i64 ((s.length - r.length : Nat) : Int)]) ∧ w2.heap.size ≤ g ∧ Nums w' g (intsA [m, n1, n2, n3, n4, n5, n6, n7, n8])) := HHD
      clear HHD
      obtain ⟨p, hp⟩ : ∃ p, s.length - r.length = p := ⟨_, rfl⟩
      have HP := Lib.hid hp
      have hps : p ≤ s.length := by omega
      have HN8 : Hid (n1 ≤ 16384 ∧ n2 ≤ 16384 ∧ n3 ≤ 16384 ∧ n4 ≤ 16384 ∧ n5 ≤ 16384 ∧ n6 ≤ 16384 ∧ n7 ≤ 16384 ∧ n8 ≤ 16384 ∧ m ≤ 16384) := Lib.hid ⟨hle _ (by simp), hle _ (by simp), hle _ (by simp), hle _ (by simp), hle _ (by simp), hle _ (by simp), hle _ (by simp), hle _ (by simp), hle _ (by simp)⟩
      have HD0 : Hid (s.drop p = r) := Lib.hid (by rw [← hp]; exact hd0)
      rw [hp] at HHD2
      clear hd0 hp hle
      go_enter_defers Tryd.func16, Tryd.ntmps16
      go_upto_region 2 with (fail)
      (try rw [HW2.out])
      go_upto_region 7 with (first
        | (go_at_call 22; refine (HCS.out _).mono ?_; rintro e w1 ⟨rfl, hw1⟩; have hw9 := hw1.symm; subst hw9)
        | (go_at_call 23; refine HHD2.out.mono ?_; rintro e w3 ⟨hb, g, rfl, hg, hn⟩; have HB3 := Lib.hid hb; have HG3 := Lib.hid hg; have HN3 := Lib.hid hn; clear hb hg hn))
      obtain ⟨b, hbq⟩ : ∃ b, w3.heap.size = b := ⟨_, rfl⟩
      have HBQ := Lib.hid hbq
      obtain ⟨w4, hw4⟩ : ∃ x, w3.alloc (.cells #[.string (strB s), .int .i64 (p : Int), .int .i64 0] 64) = x := ⟨_, rfl⟩
      have HW4 := Lib.hid hw4
      have HRD4 : Hid (Rd w4 b s p 0) := Lib.hid (by rw [← hw4, ← hbq]; exact Blk.new _ _ _)
      have HB4 : Hid (Below w2.heap.size w2 w4) := Lib.hid (by rw [← hw4]; exact HB3.out.alloc HB3.out.size _)
      have hs4 : w4.heap.size = b + 1 := by rw [← hw4, ← hbq]; simp
      have hbb : w2.heap.size ≤ b := by rw [← hbq]; exact HB3.out.size
      have hgb : g < b := by rw [← hbq]; exact Blk.lt HN3.out
      have HN4 : Hid (Nums w4 g (intsA [m, n1, n2, n3, n4, n5, n6, n7, n8])) := Lib.hid (by rw [← hw4]; exact Blk.alloc HN3.out _)
      (try rw [hbq])
      rw [hw4]
      clear hw4 hbq
      have hBb : B ≤ b := by omega
      obtain ⟨k1, k2, k3, k4, k5, k6, k7, k8, k0⟩ := HN8.out
      have HCI := Lib.hid (circuit_any w4 B b g s p 0 m n1 n2 n3 n4 n5 n6 n7 n8 HRD4.out hps hs HN4.out (by omega) (by omega) (by omega) (by omega) (by omega) (by omega) (by omega) (by omega) (by omega) (HLB.out.on ((HB2.out.mono hB).trans (HB4.out.mono (by omega)))) hBb)
      rw [HD0.out] at HCI
      cases hq : bodyA [m, n1, n2, n3, n4, n5, n6, n7, n8] r with
      | error k =>
        rw [hq] at HCI
        have HR : Hid (∀ x w', FaultE ((s.length - k : Nat) : Int) 42 x → ReadAns w s x w') := Lib.hid (fun x w' h => by
          unfold ReadAns
          rw [circA_body hs HQ.out hq]
          exact h)
        clear hq
        go_wp2_with (go_at_call 32; refine HCI.out.mono ?_; rintro e w5 ⟨hg, he⟩; have he2 : e = pan ((s.length - k : Nat) : Int) 42 := he; subst he2; have HB5 := Lib.hid (below_gbA HB4.out (Nat.le_refl _) hbb hg); clear hg he)
        exact HDO.out _ _ _ 42 rfl rfl HB5.out HR.out
      | ok y =>
        obtain ⟨C, r1⟩ := y
        rw [hq] at HCI
        have HCI2 : Hid (Calls Tryd.prog 32 #[.pointer (some ⟨b, 0, none⟩), .slice (some ⟨g, 0, none⟩) 9 9] w4 fun e w5 => w4.grownBy w5 (some b) ∧ ∃ g1 g2 g3 g4 g5 g6 g7 g8 lk i l o bb c j f a, e = .returned (.agg #[.int .i64 (m : Int), .slice (some ⟨g1, 0, none⟩) i.length i.length, .slice (some ⟨g2, 0, none⟩) l.length l.length, .slice (some ⟨g3, 0, none⟩) o.length o.length, .slice (some ⟨g4, 0, none⟩) bb.length bb.length, .slice (some ⟨g5, 0, none⟩) c.length c.length, .slice (some ⟨g6, 0, none⟩) j.length j.length, .slice (some ⟨g7, 0, none⟩) f.length f.length, .slice (some ⟨g8, 0, none⟩) a.length a.length, .slice none 0 0, .slice none 0 0]) ∧ C = ⟨m, intsA i, l.map triA, intsA o, intsA bb, intsA c, j.map intsA, intsA f, a.map triA, [], []⟩ ∧ CircM w4.heap.size w5 ⟨.slice (some ⟨g1, 0, none⟩) i.length i.length, .slice (some ⟨g2, 0, none⟩) l.length l.length, .slice (some ⟨g3, 0, none⟩) o.length o.length, .slice (some ⟨g4, 0, none⟩) bb.length bb.length, .slice (some ⟨g5, 0, none⟩) c.length c.length, .slice (some ⟨g6, 0, none⟩) j.length j.length, .slice (some ⟨g7, 0, none⟩) f.length f.length, .slice (some ⟨g8, 0, none⟩) a.length a.length, .slice none 0 0, .slice none 0 0⟩ i l o bb c j f a ∧ FitA i l o bb c j f a ∧ Rd w5 b s (s.length - r1.length) lk) := Lib.hid (by
          refine HCI.out.mono ?_
          rintro e w5 ⟨hg, V, lk, i, l, o, bb, c, j, f, a, rfl, hC, hm, hrd⟩
          obtain ⟨i', l', o', b', c', j', f', a', hC', fit, _, _⟩ := bodyA_ok hq k1 k2 k3 k4 k5 k6 k7 k8
          rw [hC] at hC'
          simp only [Circ.mk.injEq] at hC'
          obtain ⟨_, q1, q2, q3, q4, q5, q6, q7, q8, _⟩ := hC'
          rw [← intsA_inj q1, ← triA_inj q2, ← intsA_inj q3, ← intsA_inj q4, ← intsA_inj q5, ← justI_inj q6, ← intsA_inj q7, ← triA_inj q8] at fit
          obtain ⟨Vi, Vl, Vo, Vb, Vc, Vj, Vf, Va, Vs, Vt⟩ := V
          have hm2 := hm
          obtain ⟨⟨g1, e1, _⟩, ⟨g2, e2, _⟩, ⟨g3, e3, _⟩, ⟨g4, e4, _⟩, ⟨g5, e5, _⟩, ⟨g6, _, e6, _⟩, ⟨g7, e7, _⟩, ⟨g8, e8, _⟩, e9, e10⟩ := hm2
          dsimp only at e1 e2 e3 e4 e5 e6 e7 e8 e9 e10
          subst e1 e2 e3 e4 e5 e6 e7 e8 e9 e10
          exact ⟨hg, g1, g2, g3, g4, g5, g6, g7, g8, lk, i, l, o, bb, c, j, f, a, rfl, hC, hm, fit, hrd⟩)
        clear HCI
        have hd1 : s.drop (s.length - r1.length) = r1 := by
          obtain ⟨_, _, _, _, _, _, _, _, _, _, _, hsf⟩ := bodyA_ok hq k1 k2 k3 k4 k5 k6 k7 k8
          rw [← HD0.out] at hsf
          exact suf_drop hsf
        have HD1 := Lib.hid hd1
        have HHQ := Lib.hid hq
        clear hd1 hq
        go_upto_region 8 with (go_at_call 32; refine HCI2.out.mono ?_; rintro e w5 ⟨hg, g1, g2, g3, g4, g5, g6, g7, g8, lk, i, l, o, bb, c, j, f, a, rfl, rfl, hm, fit, hrd⟩; have HG5 := Lib.hid hg; have HM5 := Lib.hid hm; have HFIT := Lib.hid fit; have HRD5 := Lib.hid hrd; clear hg hm fit hrd)
        obtain ⟨bc, hbc⟩ : ∃ bc, w5.heap.size = bc := ⟨_, rfl⟩
        have HBC := Lib.hid hbc
        obtain ⟨w6, hw6⟩ : ∃ x, w5.alloc (.cells #[.int .i64 (m : Int), .slice (some ⟨g1, 0, none⟩) i.length i.length, .slice (some ⟨g2, 0, none⟩) l.length l.length, .slice (some ⟨g3, 0, none⟩) o.length o.length, .slice (some ⟨g4, 0, none⟩) bb.length bb.length, .slice (some ⟨g5, 0, none⟩) c.length c.length, .slice (some ⟨g6, 0, none⟩) j.length j.length, .slice (some ⟨g7, 0, none⟩) f.length f.length, .slice (some ⟨g8, 0, none⟩) a.length a.length, .slice none 0 0, .slice none 0 0] 44) = x := ⟨_, rfl⟩
        have hbl5 : Below w5.heap.size w5 w6 := by rw [← hw6]; exact (Below.refl _ _).alloc (Nat.le_refl _) _
        have HX6 : Hid (Blk w6 bc 44 #[.int .i64 (m : Int), .slice (some ⟨g1, 0, none⟩) i.length i.length, .slice (some ⟨g2, 0, none⟩) l.length l.length, .slice (some ⟨g3, 0, none⟩) o.length o.length, .slice (some ⟨g4, 0, none⟩) bb.length bb.length, .slice (some ⟨g5, 0, none⟩) c.length c.length, .slice (some ⟨g6, 0, none⟩) j.length j.length, .slice (some ⟨g7, 0, none⟩) f.length f.length, .slice (some ⟨g8, 0, none⟩) a.length a.length, .slice none 0 0, .slice none 0 0]) := Lib.hid (by rw [← hw6, ← hbc]; exact Blk.new _ _ _)
        have HBE5 : Hid (BE (fun k => k ≤ b ∨ k = bc) w5 w6) := Lib.hid (BE.of_below hbl5)
        have HRD6 : Hid (Rd w6 b s (s.length - r1.length) lk) := Lib.hid (HRD5.out.below hbl5)
        have HB5 : Hid (Below w2.heap.size w2 w5) := Lib.hid (below_gbA HB4.out (Nat.le_refl _) hbb HG5.out)
        have HB6 : Hid (Below w2.heap.size w2 w6) := Lib.hid (bt HB5.out (Nat.le_refl _) hbl5)
        have hs6 : w6.heap.size = bc + 1 := by rw [← hw6, ← hbc]; simp
        have hbbc : b < bc := by rw [← hbc]; exact Blk.lt HRD5.out
        (try rw [hbc])
        rw [hw6]
        clear hw6 hbc hbl5
        have HTA := Lib.hid (tail_any w6 B b s (s.length - r1.length) lk HRD6.out (Nat.sub_le _ _) hs (HLB.out.on ((HB2.out.mono hB).trans (HB6.out.mono (by omega)))) hBb)
        rw [HD1.out] at HTA
        have hr1 : r1.length ≤ s.length := by
          have h9 := congrArg List.length HD1.out
          rw [List.length_drop] at h9
          omega
        cases ht : tailP r1 with
        | error k =>
          rw [ht] at HTA
          have HR : Hid (∀ x w', FaultE ((s.length - k : Nat) : Int) 42 x → ReadAns w s x w') := Lib.hid (fun x w' h => by
            unfold ReadAns
            rw [circA_tail hs HQ.out HHQ.out ht]
            exact h)
          clear ht
          go_wp2_with (go_at_call 28; refine HTA.out.mono ?_; rintro e w7 ⟨hg, he⟩; have he2 : e = pan ((s.length - k : Nat) : Int) 42 := he; subst he2; have HB7 := Lib.hid (below_gbA HB6.out (Nat.le_refl _) hbb hg); clear hg he)
          exact HDO.out _ _ _ 42 rfl rfl HB7.out HR.out
        | ok y =>
          obtain ⟨ss, ls⟩ := y
          rw [ht] at HTA
          have HTA2 : Hid (Calls Tryd.prog 28 #[.pointer (some ⟨b, 0, none⟩)] w6 fun e w7 => w6.grownBy w7 (some b) ∧ ∃ As cs At ct, e = .returned (.tuple #[.slice As ss.length cs, .slice At ls.length ct]) ∧ w7.ownsRow w6.heap.size 38 3 (.slice As ss.length cs) ss.length (cellsY ss) ∧ w7.ownsRow w6.heap.size 9 1 (.slice At ls.length ct) ls.length (ls.map svA)) := Lib.hid (by
            refine HTA.out.mono ?_
            rintro e w7 ⟨hg, v, u, rfl, h1, h2⟩
            obtain ⟨As, cs, rfl⟩ := own_sliceA h1
            obtain ⟨At, ct, rfl⟩ := own_sliceA h2
            exact ⟨hg, As, cs, At, ct, rfl, h1, h2⟩)
          clear HTA
          have HTL : Hid (ss.length + ls.length ≤ r1.length ∧ (∀ y ∈ ss, y.2.1 ≤ M31 ∧ y.2.2.length ≤ r1.length) ∧ ∀ l ∈ ls, l.length ≤ r1.length) := Lib.hid (tailA_le ht)
          have HCK : Hid (circA s = .ok (circR m i l o bb c j f a ss ls)) := Lib.hid (circA_ok hs HQ.out HHQ.out ht)
          clear ht
          have HAF : Hid (∀ w7, w6.grownBy w7 (some b) → Blk w7 bc 44 #[.int .i64 (m : Int), .slice (some ⟨g1, 0, none⟩) i.length i.length, .slice (some ⟨g2, 0, none⟩) l.length l.length, .slice (some ⟨g3, 0, none⟩) o.length o.length, .slice (some ⟨g4, 0, none⟩) bb.length bb.length, .slice (some ⟨g5, 0, none⟩) c.length c.length, .slice (some ⟨g6, 0, none⟩) j.length j.length, .slice (some ⟨g7, 0, none⟩) f.length f.length, .slice (some ⟨g8, 0, none⟩) a.length a.length, .slice none 0 0, .slice none 0 0] ∧ w7.frozen? ⟨bc, 9, none⟩ = false ∧ w7.frozen? ⟨bc, 10, none⟩ = false ∧ w7.cell? ⟨bc, 9, none⟩ = some (.slice none 0 0) ∧ w7.cell? ⟨bc, 10, none⟩ = some (.slice none 0 0)) := Lib.hid (fun w7 hg => by
            have h9 : Blk w7 bc 44 _ := (hg.block bc (by omega) (fun e => by injection e with e; omega)).trans HX6.out
            exact ⟨h9, Blk.frozen h9 _, Blk.frozen h9 _, h9.cell 9, h9.cell 10⟩)
          go_upto_region 9 with (go_at_call 28; refine HTA2.out.mono ?_; rintro e w7 ⟨hg, As, cs, At, ct, rfl, h1, h2⟩; have HG7 := Lib.hid hg; have HS7 := Lib.hid h1; have HT7 := Lib.hid h2; obtain ⟨_, f9, f10, c9, c10⟩ := HAF.out w7 hg; clear hg h1 h2)
          obtain ⟨w8, hw8⟩ : ∃ x, (w7.setCell ⟨bc, 9, none⟩ (.slice As ss.length cs)).setCell ⟨bc, 10, none⟩ (.slice At ls.length ct) = x := ⟨_, rfl⟩
          have HX8 : Hid (Blk w8 bc 44 #[.int .i64 (m : Int), .slice (some ⟨g1, 0, none⟩) i.length i.length, .slice (some ⟨g2, 0, none⟩) l.length l.length, .slice (some ⟨g3, 0, none⟩) o.length o.length, .slice (some ⟨g4, 0, none⟩) bb.length bb.length, .slice (some ⟨g5, 0, none⟩) c.length c.length, .slice (some ⟨g6, 0, none⟩) j.length j.length, .slice (some ⟨g7, 0, none⟩) f.length f.length, .slice (some ⟨g8, 0, none⟩) a.length a.length, .slice As ss.length cs, .slice At ls.length ct]) := Lib.hid (by rw [← hw8]; exact Blk.set_ (Blk.set_ (HAF.out w7 HG7.out).1 9 (.slice As ss.length cs)) 10 (.slice At ls.length ct))
          have HBE8 : Hid (BE (fun k => k ≤ b ∨ k = bc) w7 w8) := Lib.hid (BE.of_grown (b := bc) (by rw [← hw8]; exact gb_set (gb_set (World.grownBy.refl w7 (some bc)) 9 _) 10 _) (Or.inr rfl))
          have HBE7 : Hid (BE (fun k => k ≤ b ∨ k = bc) w6 w7) := Lib.hid (BE.of_grown HG7.out (Or.inl (Nat.le_refl _)))
          have HM8 : Hid (CircM w4.heap.size w8 ⟨.slice (some ⟨g1, 0, none⟩) i.length i.length, .slice (some ⟨g2, 0, none⟩) l.length l.length, .slice (some ⟨g3, 0, none⟩) o.length o.length, .slice (some ⟨g4, 0, none⟩) bb.length bb.length, .slice (some ⟨g5, 0, none⟩) c.length c.length, .slice (some ⟨g6, 0, none⟩) j.length j.length, .slice (some ⟨g7, 0, none⟩) f.length f.length, .slice (some ⟨g8, 0, none⟩) a.length a.length, .slice none 0 0, .slice none 0 0⟩ i l o bb c j f a) := Lib.hid ((HBE5.out.trans (HBE7.out.trans HBE8.out)).circ HM5.out (fun k q1 q2 q3 => by have := HBC.out; omega))
          have HB8 : Hid (Below w2.heap.size w2 w8) := Lib.hid (below_BE (below_gbA HB6.out (Nat.le_refl _) hbb HG7.out) (Nat.le_refl _) (BE.of_grown (E := fun k => k = bc) (b := bc) (by rw [← hw8]; exact gb_set (gb_set (World.grownBy.refl w7 (some bc)) 9 _) 10 _) rfl) (fun k q1 q2 => by omega))
          have HRM : Hid (ReadM w2.heap.size w8 ⟨.slice (some ⟨g1, 0, none⟩) i.length i.length, .slice (some ⟨g2, 0, none⟩) l.length l.length, .slice (some ⟨g3, 0, none⟩) o.length o.length, .slice (some ⟨g4, 0, none⟩) bb.length bb.length, .slice (some ⟨g5, 0, none⟩) c.length c.length, .slice (some ⟨g6, 0, none⟩) j.length j.length, .slice (some ⟨g7, 0, none⟩) f.length f.length, .slice (some ⟨g8, 0, none⟩) a.length a.length, .slice As ss.length cs, .slice At ls.length ct⟩ (circR m i l o bb c j f a ss ls)) := Lib.hid ⟨m, i, l, o, bb, c, j, f, a, ss, ls, ⟨.slice (some ⟨g1, 0, none⟩) i.length i.length, .slice (some ⟨g2, 0, none⟩) l.length l.length, .slice (some ⟨g3, 0, none⟩) o.length o.length, .slice (some ⟨g4, 0, none⟩) bb.length bb.length, .slice (some ⟨g5, 0, none⟩) c.length c.length, .slice (some ⟨g6, 0, none⟩) j.length j.length, .slice (some ⟨g7, 0, none⟩) f.length f.length, .slice (some ⟨g8, 0, none⟩) a.length a.length, .slice none 0 0, .slice none 0 0⟩, rfl, k0, HFIT.out, (fun y hy => by have := HTL.out.2.1 y hy; omega), HM8.out.mono (by omega), own_le (HBE8.out.own HS7.out (fun k q1 q2 q3 => by omega)) (by omega), own_le (HBE8.out.own HT7.out (fun k q1 q2 q3 => by omega)) (by omega), rfl⟩
          obtain ⟨x1, hx1⟩ : ∃ x, (checkR (circR m i l o bb c j f a ss ls)).1 = x := ⟨_, rfl⟩
          obtain ⟨x2, hx2⟩ : ∃ x, (checkR (circR m i l o bb c j f a ss ls)).2 = x := ⟨_, rfl⟩
          have HCH : Hid (Calls Tryd.prog 17 #[.agg #[.int .i64 (m : Int), .slice (some ⟨g1, 0, none⟩) i.length i.length, .slice (some ⟨g2, 0, none⟩) l.length l.length, .slice (some ⟨g3, 0, none⟩) o.length o.length, .slice (some ⟨g4, 0, none⟩) bb.length bb.length, .slice (some ⟨g5, 0, none⟩) c.length c.length, .slice (some ⟨g6, 0, none⟩) j.length j.length, .slice (some ⟨g7, 0, none⟩) f.length f.length, .slice (some ⟨g8, 0, none⟩) a.length a.length, .slice As ss.length cs, .slice At ls.length ct]] w8 fun e w' => e = .returned (.tuple #[.int .i64 x1, .int .i64 x2]) ∧ Below w8.heap.size w8 w') := Lib.hid (by
            have h9 := Check_any w8 ⟨.slice (some ⟨g1, 0, none⟩) i.length i.length, .slice (some ⟨g2, 0, none⟩) l.length l.length, .slice (some ⟨g3, 0, none⟩) o.length o.length, .slice (some ⟨g4, 0, none⟩) bb.length bb.length, .slice (some ⟨g5, 0, none⟩) c.length c.length, .slice (some ⟨g6, 0, none⟩) j.length j.length, .slice (some ⟨g7, 0, none⟩) f.length f.length, .slice (some ⟨g8, 0, none⟩) a.length a.length, .slice As ss.length cs, .slice At ls.length ct⟩ (circR m i l o bb c j f a ss ls) HRM.out.in_ HRM.out.ok
            rw [hx1, hx2] at h9
            exact h9)
          rw [hw8]
          clear hw8 f9 f10 c9 c10 hx1
          by_cases he0 : x2 = 0
          · subst he0
            have HX2 := Lib.hid hx2
            have HRO : Hid (∀ w9, Below w8.heap.size w8 w9 → Blk w9 w.heap.size 44 circ0 ∧ Blk w9 (w.heap.size + 1) 25 #[.int .i64 0, .int .i64 0] ∧ Blk w9 bc 44 #[.int .i64 (m : Int), .slice (some ⟨g1, 0, none⟩) i.length i.length, .slice (some ⟨g2, 0, none⟩) l.length l.length, .slice (some ⟨g3, 0, none⟩) o.length o.length, .slice (some ⟨g4, 0, none⟩) bb.length bb.length, .slice (some ⟨g5, 0, none⟩) c.length c.length, .slice (some ⟨g6, 0, none⟩) j.length j.length, .slice (some ⟨g7, 0, none⟩) f.length f.length, .slice (some ⟨g8, 0, none⟩) a.length a.length, .slice As ss.length cs, .slice At ls.length ct]) := Lib.hid (fun w9 h9 => ⟨HC2.out.below (bt HB8.out (Nat.le_refl _) h9) (by omega), HF2.out.below (bt HB8.out (Nat.le_refl _) h9) (by omega), HX8.out.below h9 (Blk.lt HX8.out)⟩)
            go_wp2_with (first
              | (refine wpList_load_row rfl 44 (.tmp 8) rfl bc rfl 44 #[.int .i64 (m : Int), .slice (some ⟨g1, 0, none⟩) i.length i.length, .slice (some ⟨g2, 0, none⟩) l.length l.length, .slice (some ⟨g3, 0, none⟩) o.length o.length, .slice (some ⟨g4, 0, none⟩) bb.length bb.length, .slice (some ⟨g5, 0, none⟩) c.length c.length, .slice (some ⟨g6, 0, none⟩) j.length j.length, .slice (some ⟨g7, 0, none⟩) f.length f.length, .slice (some ⟨g8, 0, none⟩) a.length a.length, .slice As ss.length cs, .slice At ls.length ct] (0, 0) _ HX8.out Tryd.underlying44 rfl (by kernel_rfl) ?_)
              | (go_at_call 17; refine HCH.out.mono ?_; rintro e w9 ⟨rfl, hb⟩; have HB9 := Lib.hid hb; obtain ⟨hr9, hf9, hx9⟩ := HRO.out w9 hb; have HR9 := Lib.hid hr9; have HF9 := Lib.hid hf9; have HX9 := Lib.hid hx9; clear hb hr9 hf9 hx9)
              | (refine wpList_load_row rfl 44 (.tmp 8) rfl bc rfl 44 #[.int .i64 (m : Int), .slice (some ⟨g1, 0, none⟩) i.length i.length, .slice (some ⟨g2, 0, none⟩) l.length l.length, .slice (some ⟨g3, 0, none⟩) o.length o.length, .slice (some ⟨g4, 0, none⟩) bb.length bb.length, .slice (some ⟨g5, 0, none⟩) c.length c.length, .slice (some ⟨g6, 0, none⟩) j.length j.length, .slice (some ⟨g7, 0, none⟩) f.length f.length, .slice (some ⟨g8, 0, none⟩) a.length a.length, .slice As ss.length cs, .slice At ls.length ct] (0, 0) _ HX9.out Tryd.underlying44 rfl (by kernel_rfl) ?_)
              | (refine wpList_store_row rfl 44 (.tmp 2) (.tmp 43) rfl w.heap.size #[.int .i64 (m : Int), .slice (some ⟨g1, 0, none⟩) i.length i.length, .slice (some ⟨g2, 0, none⟩) l.length l.length, .slice (some ⟨g3, 0, none⟩) o.length o.length, .slice (some ⟨g4, 0, none⟩) bb.length bb.length, .slice (some ⟨g5, 0, none⟩) c.length c.length, .slice (some ⟨g6, 0, none⟩) j.length j.length, .slice (some ⟨g7, 0, none⟩) f.length f.length, .slice (some ⟨g8, 0, none⟩) a.length a.length, .slice As ss.length cs, .slice At ls.length ct] rfl rfl 44 _ HR9.out (by kernel_rfl) rfl (by simp [Value.oneCell']) ?_)
              | (refine wpList_store_row rfl 25 (.tmp 3) (.tmp 44) rfl (w.heap.size + 1) #[.int .i64 0, .int .i64 0] rfl rfl 25 #[.int .i64 0, .int .i64 0] ((setRow_other _ _ _ _ (by omega)).trans HF9.out) (by kernel_rfl) rfl (by simp [Value.oneCell']) ?_))
            refine read_door_ok w _ _ _ #[.int .i64 (m : Int), .slice (some ⟨g1, 0, none⟩) i.length i.length, .slice (some ⟨g2, 0, none⟩) l.length l.length, .slice (some ⟨g3, 0, none⟩) o.length o.length, .slice (some ⟨g4, 0, none⟩) bb.length bb.length, .slice (some ⟨g5, 0, none⟩) c.length c.length, .slice (some ⟨g6, 0, none⟩) j.length j.length, .slice (some ⟨g7, 0, none⟩) f.length f.length, .slice (some ⟨g8, 0, none⟩) a.length a.length, .slice As ss.length cs, .slice At ls.length ct] rfl rfl (by kernel_rfl) ((setRow_other _ _ _ _ (by omega)).trans (setRow_heap _ _ _ #[.int .i64 (m : Int), .slice (some ⟨g1, 0, none⟩) i.length i.length, .slice (some ⟨g2, 0, none⟩) l.length l.length, .slice (some ⟨g3, 0, none⟩) o.length o.length, .slice (some ⟨g4, 0, none⟩) bb.length bb.length, .slice (some ⟨g5, 0, none⟩) c.length c.length, .slice (some ⟨g6, 0, none⟩) j.length j.length, .slice (some ⟨g7, 0, none⟩) f.length f.length, .slice (some ⟨g8, 0, none⟩) a.length a.length, .slice As ss.length cs, .slice At ls.length ct] _ _ HR9.out)) (setRow_heap _ _ #[.int .i64 0, .int .i64 0] #[.int .i64 0, .int .i64 0] _ _ ((setRow_other _ _ _ _ (by omega)).trans HF9.out)) ?_
            intro w' hgw
            have HE9 : BE (fun k => k = w.heap.size ∨ k = w.heap.size + 1) w9 w' := ((BE.of_row _ (Or.inl rfl)).trans (BE.of_row _ (Or.inr rfl))).trans (BE.of_grown hgw (Or.inr rfl))
            refine ⟨below_BE (HB2.out.trans ((bt HB8.out (Nat.le_refl _) HB9.out).mono (by omega))) (Nat.le_refl _) HE9 (fun k q1 q2 => by omega), ?_⟩
            unfold ReadAns
            rw [HCK.out]
            refine ⟨fun h0 => absurd HX2.out h0, fun _ => ⟨⟨.slice (some ⟨g1, 0, none⟩) i.length i.length, .slice (some ⟨g2, 0, none⟩) l.length l.length, .slice (some ⟨g3, 0, none⟩) o.length o.length, .slice (some ⟨g4, 0, none⟩) bb.length bb.length, .slice (some ⟨g5, 0, none⟩) c.length c.length, .slice (some ⟨g6, 0, none⟩) j.length j.length, .slice (some ⟨g7, 0, none⟩) f.length f.length, .slice (some ⟨g8, 0, none⟩) a.length a.length, .slice As ss.length cs, .slice At ls.length ct⟩, rfl, ?_⟩⟩
            exact (((HRM.out.be (BE.of_below HB9.out (E := fun _ => False)) (fun k _ _ h => h)).be HE9 (fun k q1 q2 q3 => by omega)).mono (by omega))
          · have HGU := Lib.hid (fun (wx : World) => giveUp_any wx 0 x2)
            have HR : Hid (∀ x w', FaultE 0 x2 x → ReadAns w s x w') := Lib.hid (fun x w' h => by
              unfold ReadAns
              rw [HCK.out]
              refine ⟨fun _ => by rw [hx2]; exact h, fun h0 => absurd (hx2.symm.trans h0) he0⟩)
            go_wp2_with (first
              | (refine wpList_load_row rfl 44 (.tmp 8) rfl bc rfl 44 #[.int .i64 (m : Int), .slice (some ⟨g1, 0, none⟩) i.length i.length, .slice (some ⟨g2, 0, none⟩) l.length l.length, .slice (some ⟨g3, 0, none⟩) o.length o.length, .slice (some ⟨g4, 0, none⟩) bb.length bb.length, .slice (some ⟨g5, 0, none⟩) c.length c.length, .slice (some ⟨g6, 0, none⟩) j.length j.length, .slice (some ⟨g7, 0, none⟩) f.length f.length, .slice (some ⟨g8, 0, none⟩) a.length a.length, .slice As ss.length cs, .slice At ls.length ct] (0, 0) _ HX8.out Tryd.underlying44 rfl (by kernel_rfl) ?_)
              | (go_at_call 17; refine HCH.out.mono ?_; rintro e w9 ⟨rfl, hb⟩; have HB9 := Lib.hid (bt HB8.out (Nat.le_refl _) hb); clear hb)
              | (go_at_call 27; refine (HGU.out _).mono ?_; rintro e w10 ⟨rfl, hw10⟩; subst hw10))
            exact HDO.out _ _ 0 x2 rfl rfl HB9.out HR.out
    · have HHD2 : Hid (Calls Tryd.prog 23 #[.string (strB s)] w2 fun e w' => Below w2.heap.size w2 w' ∧ ∃ g, e = .returned (.tuple #[.string ⟨#[97, 105, 103]⟩, .slice (some ⟨g, 0, none⟩) 9 9, .int .i64 ((s.length - r.length : Nat) : Int)]) ∧ w2.heap.size ≤ g ∧ Nums w' g (intsA [m, n1, n2, n3, n4, n5, n6, n7, n8])) := HHD
      clear HHD
      have HGU := Lib.hid (fun (wx : World) => giveUp_any wx 0 40)
      have HR : Hid (∀ x w', FaultE 0 40 x → ReadAns w s x w') := Lib.hid (fun x w' h => by
        unfold ReadAns
        rw [HE1.out (by decide)]
        exact h)
      go_enter_defers Tryd.func16, Tryd.ntmps16
      go_upto_region 2 with (fail)
      (try rw [HW2.out])
      go_wp2_with (first
        | (go_at_call 22; refine (HCS.out _).mono ?_; rintro e w1 ⟨rfl, hw1⟩; have hw9 := hw1.symm; subst hw9)
        | (go_at_call 23; refine HHD2.out.mono ?_; rintro e w3 ⟨hb, g, rfl, hg, hn⟩; have HB3 := Lib.hid hb; clear hb hg hn)
        | (go_at_call 27; refine (HGU.out _).mono ?_; rintro e w4 ⟨rfl, hw4⟩; try subst hw4))
      exact HDO.out _ _ 0 40 rfl rfl HB3.out HR.out
end Go.Proofs.YtkkolefhfmlhfabDoor
