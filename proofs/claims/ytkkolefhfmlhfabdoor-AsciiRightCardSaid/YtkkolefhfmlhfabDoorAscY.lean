/- Ascii: Read, as the statements use it. -/
import Derived.Test.YtkkolefhfmlhfabDoorAscX
namespace Go.Proofs.YtkkolefhfmlhfabDoor
open Go.RowKit

theorem headA_err {s : Bs} {e : Int} (h : headA s = .error e) : e ≠ 0 := by
  cases hl : lineA s with
  | none => rw [headA_none hl] at h; injection h with h; omega
  | some y =>
    obtain ⟨l, r1⟩ := y
    cases hn : numbersA 5 9 (cutS l).2 with
    | none => rw [headA_nums hl hn] at h; injection h with h; omega
    | some ns =>
      by_cases hw : (cutS l).1 = aagW ∨ (cutS l).1 = aigW
      · rw [headA_ok hl hw hn] at h
        split at h
        · injection h with h; omega
        · cases h
      · rw [headA_word hl hw] at h; injection h with h; omega
theorem circA_err {s : Bs} {k : Nat × Int} (h : circA s = .error k) : k.2 ≠ 0 := by
  unfold circA at h
  by_cases hs : 262144 < s.length
  · rw [if_pos hs] at h; injection h with h; subst h; decide
  · rw [if_neg hs] at h
    cases hq : headA s with
    | error e => rw [hq] at h; injection h with h; subst h; exact headA_err hq
    | ok y =>
      obtain ⟨wd, c, r⟩ := y
      rw [hq] at h
      simp only at h
      split at h
      · injection h with h; subst h; show (40 : Int) ≠ 0; decide
      · cases hb : bodyA c r with
        | error k => rw [hb] at h; injection h with h; subst h; show (42 : Int) ≠ 0; decide
        | ok y =>
          obtain ⟨C', r1⟩ := y
          rw [hb] at h
          simp only at h
          cases ht : tailA r1.length r1 with
          | error k => rw [ht] at h; injection h with h; subst h; show (42 : Int) ≠ 0; decide
          | ok y => rw [ht] at h; cases h
/-- A circuit's ten rows are slices. -/
structure CV.SlA (V : CV) : Prop where
  i : ∃ A n c, V.i = .slice A n c
  l : ∃ A n c, V.l = .slice A n c
  o : ∃ A n c, V.o = .slice A n c
  b : ∃ A n c, V.b = .slice A n c
  c : ∃ A n c, V.c = .slice A n c
  j : ∃ A n c, V.j = .slice A n c
  f : ∃ A n c, V.f = .slice A n c
  a : ∃ A n c, V.a = .slice A n c
  s : ∃ A n c, V.s = .slice A n c
  t : ∃ A n c, V.t = .slice A n c
theorem ReadM.sl {B : Nat} {w : World} {V : CV} {C : Circ} (h : ReadM B w V C) : V.SlA := by
  obtain ⟨m, i, l, o, b, c, j, f, a, ss, ls, V0, rfl, h1, fit, h2, hm, hs, ht, hv⟩ := h
  obtain ⟨⟨g1, a1, _⟩, ⟨g2, a2, _⟩, ⟨g3, a3, _⟩, ⟨g4, a4, _⟩, ⟨g5, a5, _⟩, ⟨g6, gs, a6, _⟩, ⟨g7, a7, _⟩, ⟨g8, a8, _⟩, zs, zt⟩ := hm
  obtain ⟨A, c1, e1⟩ := own_sliceA hs
  obtain ⟨A2, c2, e2⟩ := own_sliceA ht
  have k1 := congrArg CV.i hv
  have k2 := congrArg CV.l hv
  have k3 := congrArg CV.o hv
  have k4 := congrArg CV.b hv
  have k5 := congrArg CV.c hv
  have k6 := congrArg CV.j hv
  have k7 := congrArg CV.f hv
  have k8 := congrArg CV.a hv
  exact ⟨⟨_, _, _, k1.trans a1⟩, ⟨_, _, _, k2.trans a2⟩, ⟨_, _, _, k3.trans a3⟩, ⟨_, _, _, k4.trans a4⟩, ⟨_, _, _, k5.trans a5⟩, ⟨_, _, _, k6.trans a6⟩, ⟨_, _, _, k7.trans a7⟩, ⟨_, _, _, k8.trans a8⟩, ⟨_, _, _, e1⟩, ⟨_, _, _, e2⟩⟩
def nilV : CV := ⟨.slice none 0 0, .slice none 0 0, .slice none 0 0, .slice none 0 0, .slice none 0 0, .slice none 0 0, .slice none 0 0, .slice none 0 0, .slice none 0 0, .slice none 0 0⟩
theorem nilV_sl : nilV.SlA := ⟨⟨_, _, _, rfl⟩, ⟨_, _, _, rfl⟩, ⟨_, _, _, rfl⟩, ⟨_, _, _, rfl⟩, ⟨_, _, _, rfl⟩, ⟨_, _, _, rfl⟩, ⟨_, _, _, rfl⟩, ⟨_, _, _, rfl⟩, ⟨_, _, _, rfl⟩, ⟨_, _, _, rfl⟩⟩
/-- What is told of a text: nothing wrong, and it is a circuit; or something. -/
def RdP (s : Bs) (k x : Int) : Prop := (x = 0 ∧ k = 0 ∧ ReadsA s) ∨ (x ≠ 0 ∧ ¬ ReadsA s)
theorem Read_use (w : World) (B : Nat) (s : Bs) (hs : s.length ≤ 9223372036854775807) (lib : LibB B w) (hB : B ≤ w.heap.size) :
    Calls Tryd.prog 16 #[.string (strB s)] w fun e w' => Below w.heap.size w w' ∧ ∃ (V : CV) (m k x : Int), V.SlA ∧ e = .returned (.tuple #[V.val m, flt k x]) ∧ RdP s k x := by
  by_cases hl : 262144 < s.length
  · refine (Read_long w s hl hs).mono ?_
    rintro e w' ⟨hb, rfl⟩
    exact ⟨hb, nilV, 0, 0, 2, nilV_sl, rfl, Or.inr ⟨by decide, fun h => by have := h.end_.2.2; omega⟩⟩
  · refine (Read_any w B s (by omega) lib hB).mono ?_
    rintro e w' ⟨hb, ha⟩
    refine ⟨hb, ?_⟩
    unfold ReadAns at ha
    cases hc : circA s with
    | error k =>
      rw [hc] at ha
      have ha2 : FaultE (k.1 : Nat) k.2 e := ha
      refine ⟨nilV, 0, _, k.2, nilV_sl, ha2, Or.inr ⟨circA_err hc, ?_⟩⟩
      rintro ⟨C, h, _⟩
      rw [hc] at h
      cases h
    | ok C =>
      rw [hc] at ha
      simp only at ha
      by_cases h0 : (checkR C).2 = 0
      · obtain ⟨V, rfl, hm⟩ := ha.2 h0
        exact ⟨V, C.max, 0, 0, hm.sl, rfl, Or.inl ⟨rfl, rfl, C, hc, h0⟩⟩
      · refine ⟨nilV, 0, 0, (checkR C).2, nilV_sl, ha.1 h0, Or.inr ⟨h0, ?_⟩⟩
        rintro ⟨C2, h, h2⟩
        rw [hc] at h
        injection h with h
        subst h
        exact h0 h2
theorem ex1_all : (match circA ex1 with | .ok C => decide ((checkR C).2 = 0) && decide (C.max = 1) && decide (C.latches = [(2, 3, 0)]) && decide (C.bads = [2]) | .error _ => false) = true := by decide +kernel
theorem ex1_read : ∃ C, circA ex1 = .ok C ∧ (checkR C).2 = 0 ∧ C.max = 1 ∧ C.latches = [(2, 3, 0)] ∧ C.bads = [2] := by
  have h := ex1_all
  cases hc : circA ex1 with
  | error k => rw [hc] at h; cases h
  | ok C =>
    rw [hc] at h
    simp only [Bool.and_eq_true, decide_eq_true_eq] at h
    exact ⟨C, rfl, h.1.1.1, h.1.1.2, h.1.2, h.2⟩
theorem ex2_read : circA ex2 = .error (0, 40) := by
  have h := ex2_circ
  cases hc : circA ex2 with
  | ok C => rw [hc] at h; cases h
  | error k =>
    rw [hc] at h
    simp only [decide_eq_true_eq] at h
    rw [h]
/-- The first example. -/
theorem Read_ex1 (w : World) (B : Nat) (lib : LibB B w) (hB : B ≤ w.heap.size) :
    Calls Tryd.prog 16 #[.string ⟨#[97, 97, 103, 32, 49, 32, 48, 32, 49, 32, 48, 32, 48, 32, 49, 10, 50, 32, 51, 10, 50, 10]⟩] w fun e w' => Below w.heap.size w w' ∧ ∃ (V : CV) (g g2 : Nat), V.SlA ∧ e = .returned (.tuple #[.agg #[.int .i64 1, V.i, .slice (some ⟨g, 0, none⟩) 1 1, V.o, .slice (some ⟨g2, 0, none⟩) 1 1, V.c, V.j, V.f, V.a, V.s, V.t], flt 0 0]) ∧ g < w'.heap.size ∧ g2 < w'.heap.size ∧ w'.cell? ⟨g, 0, none⟩ = some (.int .i64 2) ∧ w'.cell? ⟨g, 1, none⟩ = some (.int .i64 3) ∧ w'.cell? ⟨g, 2, none⟩ = some (.int .i64 0) ∧ w'.cell? ⟨g2, 0, none⟩ = some (.int .i64 2) := by
  obtain ⟨C, hc, h0, hm, hl, hb⟩ := ex1_read
  refine (Read_any w B ex1 (by decide) lib hB).mono ?_
  rintro e w' ⟨hbw, ha⟩
  refine ⟨hbw, ?_⟩
  unfold ReadAns at ha
  rw [hc] at ha
  simp only at ha
  obtain ⟨V, rfl, hr⟩ := ha.2 h0
  have hsl := hr.sl
  obtain ⟨m, i, l, o, b, c, j, f, a, ss, ls, V0, rfl, h1, fit, h2, hM, hs, ht, hv⟩ := hr
  obtain ⟨g, e1, _, n1⟩ := hM.l
  obtain ⟨g2, e2, _, n2⟩ := hM.b
  have hl2 : l.map triA = [(2, 3, 0)] := hl
  have hb2 : intsA b = [2] := hb
  have hll : l.length = 1 := by have := congrArg List.length hl2; simpa using this
  have hbl : b.length = 1 := by have := congrArg List.length hb2; simpa [intsA] using this
  rw [hl2] at n1
  rw [hb2] at n2
  rw [hll] at e1
  rw [hbl] at e2
  have k1 : V.l = .slice (some ⟨g, 0, none⟩) 1 1 := (congrArg CV.l hv).trans e1
  have k2 : V.b = .slice (some ⟨g2, 0, none⟩) 1 1 := (congrArg CV.b hv).trans e2
  refine ⟨V, g, g2, hsl, ?_, Blk.lt n1, Blk.lt n2, Blk.cell n1 0, Blk.cell n1 1, Blk.cell n1 2, Blk.cell n2 0⟩
  rw [← k1, ← k2, hm]
theorem Read_ex2 (w : World) (B : Nat) (lib : LibB B w) (hB : B ≤ w.heap.size) :
    Calls Tryd.prog 16 #[.string ⟨#[97, 97, 103, 32, 48, 32, 48, 32, 48, 32, 48, 10]⟩] w fun e w' => Below w.heap.size w w' ∧ e = .returned (.tuple #[.agg circ0, flt 0 40]) := by
  refine (Read_any w B ex2 (by decide) lib hB).mono ?_
  rintro e w' ⟨hbw, ha⟩
  refine ⟨hbw, ?_⟩
  unfold ReadAns at ha
  rw [ex2_read] at ha
  exact ha
end Go.Proofs.YtkkolefhfmlhfabDoor
