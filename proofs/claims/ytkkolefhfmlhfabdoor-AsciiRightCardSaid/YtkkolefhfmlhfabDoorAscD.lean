/- Ascii: lines; what gives reading up. -/
import Derived.Test.YtkkolefhfmlhfabDoorAscC
import Derived.Test.YtkkolefhfmlhfabDoorAppF
import Derived.WalkLawsBesides
namespace Go.Proofs.YtkkolefhfmlhfabDoor
open Go.RowKit

theorem index_lineA : ∀ s : Bs, Lib.index s [10] = match lineA s with | some (a, _) => (a.length : Int) | none => -1
  | [] => by simp [Lib.index, lineA]
  | x :: r => by
    have ih := index_lineA r
    by_cases hx : x = 10
    · subst hx
      simp [Lib.index, lineA]
    · have h1 : (([10] : Bs).isPrefixOf (x :: r)) = false := by
        rw [Bool.eq_false_iff]
        intro h
        obtain ⟨t, ht⟩ := List.isPrefixOf_iff_prefix.1 h
        injection ht with h1
        exact hx h1.symm
      unfold Lib.index lineA
      rw [h1, ih, if_neg hx]
      cases e : lineA r with
      | none => simp
      | some y =>
        obtain ⟨a, b⟩ := y
        have : ((a.length : Int) == -1) = false := by rw [beq_eq_false_iff_ne]; omega
        simp [this]
theorem cut_lineA (s : Bs) : Lib.cut s [10] = match lineA s with | some (a, r) => (a, r, true) | none => (s, [], false) := by
  unfold Lib.cut
  rw [index_lineA]
  cases e : lineA s with
  | none => simp
  | some y =>
    obtain ⟨a, r⟩ := y
    obtain ⟨h, _⟩ := lineA_some e
    simp only
    rw [if_pos (by omega), h]
    simp
theorem gb_below {w w1 w2 : World} {row : Option Nat} (h : w.grownBy w1 row) (hb : Below w1.heap.size w1 w2) : w.grownBy w2 row :=
  ⟨hb.os.trans h.os, hb.tape.trans h.tape, hb.output.trans h.output, Nat.le_trans h.size hb.size, fun k hk hne => (hb.block k (Nat.lt_of_lt_of_le hk h.size)).trans (h.block k hk hne)⟩
theorem gb_trans {w w1 w2 : World} {row : Option Nat} (h : w.grownBy w1 row) (h2 : w1.grownBy w2 row) : w.grownBy w2 row :=
  ⟨h2.os.trans h.os, h2.tape.trans h.tape, h2.output.trans h.output, Nat.le_trans h.size h2.size, fun k hk hne => (h2.block k (Nat.lt_of_lt_of_le hk h.size) hne).trans (h.block k hk hne)⟩
theorem gb_of {w w1 : World} {row : Option Nat} (hb : Below w.heap.size w w1) : w.grownBy w1 row := ⟨hb.os, hb.tape, hb.output, hb.size, fun k hk _ => hb.block k hk⟩
theorem gb_to {w w1 : World} {b B : Nat} (h : w.grownBy w1 (some b)) (hB : B ≤ b) (hb : B ≤ w.heap.size) : Below B w w1 :=
  ⟨h.os, h.tape, h.output, h.size, fun k hk => h.block k (by omega) (fun e => by injection e with e; omega)⟩
theorem gb_set {w w1 : World} {b : Nat} (h : w.grownBy w1 (some b)) (i : Nat) (v : Value) : w.grownBy (w1.setCell ⟨b, i, none⟩ v) (some b) := only_setL h _ _
/-- Reading is given up. -/
abbrev pan (a e : Int) : Ending := .panicked [{ v := .iface 25 (.agg #[.int .i64 a, .int .i64 e]), recovered := false }]
/-- A reader: the text, where the next line begins, where the last one began. -/
def Rd (w : World) (b : Nat) (s : Bs) (p l : Nat) : Prop := Blk w b 64 #[.string (strB s), .int .i64 (p : Int), .int .i64 (l : Int)]
theorem Rd.cells {w : World} {b : Nat} {s : Bs} {p l : Nat} (h : Rd w b s p l) : w.cell? ⟨b, 0, none⟩ = some (.string (strB s)) ∧ w.cell? ⟨b, 1, none⟩ = some (.int .i64 (p : Int)) ∧ w.cell? ⟨b, 2, none⟩ = some (.int .i64 (l : Int)) :=
  ⟨Blk.cell h 0, Blk.cell h 1, Blk.cell h 2⟩
theorem Rd.below {w w' : World} {b : Nat} {s : Bs} {p l : Nat} (h : Rd w b s p l) (hb : Below w.heap.size w w') : Rd w' b s p l := Blk.below h hb (Blk.lt h)
theorem Rd.at_ {w : World} {b : Nat} {s : Bs} {p l : Nat} (h : Rd w b s p l) (q : Nat) : Rd (w.setCell ⟨b, 1, none⟩ (.int .i64 (q : Int))) b s q l := by
  have := Blk.set_ h 1 (.int .i64 (q : Int))
  exact this
theorem Rd.last {w : World} {b : Nat} {s : Bs} {p l : Nat} (h : Rd w b s p l) (q : Nat) : Rd (w.setCell ⟨b, 2, none⟩ (.int .i64 (q : Int))) b s p q := by
  have := Blk.set_ h 2 (.int .i64 (q : Int))
  exact this
theorem giveUp_any (w : World) (a e : Int) : Calls Tryd.prog 27 #[.int .i64 a, .int .i64 e] w fun x w' => x = pan a e ∧ w' = w := by
  go_enter Tryd.func27, Tryd.ntmps27
  go_wp2
  exact ⟨rfl, rfl, rfl⟩
theorem refuse_any (w : World) (b : Nat) (s : Bs) (p l : Nat) (h : Rd w b s p l) : Calls Tryd.prog 71 #[.pointer (some ⟨b, 0, none⟩)] w fun x w' => x = pan l 42 ∧ w' = w := by
  obtain ⟨_, _, c2⟩ := h.cells
  have HG := Lib.hid (giveUp_any w (l : Int) 42)
  clear h
  go_enter Tryd.func71, Tryd.ntmps71
  go_wp2_with (go_at_call 27; refine HG.out.mono ?_; rintro e w1 ⟨rfl, rfl⟩)
  exact ⟨rfl, rfl, rfl⟩
/-- What line answers: the line; the next one begins so far from the text's end. -/
def LineAns (b : Nat) (s : Bs) (p : Nat) (q : Option (Bs × Bs)) (e : Ending) (w' : World) : Prop := match q with
  | none => e = pan p 42
  | some (l, r) => e = .returned (.string (strB l)) ∧ Rd w' b s (s.length - r.length) p
set_option maxHeartbeats 4000000 in
set_option maxRecDepth 100000 in
theorem line_any (w : World) (B b : Nat) (s : Bs) (p l : Nat) (h : Rd w b s p l) (hp : p ≤ s.length) (hs : s.length ≤ 262144) (lib : LibB B w) (hB : B ≤ b) :
    Calls Tryd.prog 52 #[.pointer (some ⟨b, 0, none⟩)] w fun e w' => w.grownBy w' (some b) ∧ LineAns b s p (lineA (s.drop p)) e w' := by
  have hlt : b < w.heap.size := Blk.lt h
  obtain ⟨c0, c1, c2⟩ := h.cells
  have f2 : w.frozen? ⟨b, 2, none⟩ = false := Blk.frozen h 2
  have h1 := h.last p
  have hg1 := gb_set (World.grownBy.refl w (some b)) 2 (.int .i64 (p : Int))
  have HL0 := Lib.hid lib
  have HCUT := Lib.hid (fun (wx : World) (hb : Below B w wx) => (show Calls Tryd.prog 47 #[.string (strB (s.drop p)), .string ⟨#[10]⟩] wx fun e w' => e = .returned (.tuple #[.string ⟨(Lib.cut (s.drop p) [10]).1.toArray⟩, .string ⟨(Lib.cut (s.drop p) [10]).2.1.toArray⟩, .bool (Lib.cut (s.drop p) [10]).2.2]) ∧ ∃ n, w' = wx.drewN n from by
    obtain ⟨m, hm⟩ := (lib.on hb).here.max
    have := Tryd.strings_Cut (strB (s.drop p)) (strB [10]) m wx (by rw [strB_size, List.length_drop]; omega) hm
    rwa [strB_list, strB_list] at this))
  obtain ⟨w1, hw1⟩ : ∃ w1, w.setCell ⟨b, 2, none⟩ (.int .i64 (p : Int)) = w1 := ⟨_, rfl⟩
  rw [hw1] at h1 hg1
  have HW1 := Lib.hid hw1
  clear hw1
  have HR1 := Lib.hid h1
  have HG1 := Lib.hid hg1
  have HBB : Hid (∀ wz, Below w1.heap.size w1 wz → Below B w wz) := Lib.hid (fun wz hz => (gb_to HG1.out hB (by omega)).trans (hz.mono (by have := HG1.out.size; omega)))
  have hsz : (strB s).size = s.length := strB_size s
  have hdr := strB_drop s p
  rw [hsz] at hdr
  have HCEL : Hid (∀ wz, Below w1.heap.size w1 wz → wz.cell? ⟨b, 0, none⟩ = some (.string (strB s)) ∧ wz.cell? ⟨b, 1, none⟩ = some (.int .i64 (p : Int))) := Lib.hid (fun wz hz => by
    obtain ⟨e0, e1, _⟩ := (HR1.out.below hz).cells
    exact ⟨e0, e1⟩)
  have hp0 : (0 : Int) ≤ (p : Int) := by omega
  have hp1 : (p : Int) ≤ (s.length : Int) := by omega
  have hp2 : p ≤ s.length := hp
  have HS := Lib.hid hs
  obtain ⟨t1, t2, t3, ht⟩ : ∃ x y z, Lib.cut (s.drop p) [10] = (x, y, z) := ⟨_, _, _, rfl⟩
  obtain ⟨qq, hqq⟩ : ∃ x, lineA (s.drop p) = x := ⟨_, rfl⟩
  have HCA : Hid ((t3 = false ∧ qq = none) ∨ (t3 = true ∧ ∃ r, qq = some (t1, r) ∧ s.length - r.length = p + (t1.length + 1) ∧ t1.length + 1 ≤ 262144)) := Lib.hid (by
    rw [cut_lineA, hqq] at ht
    cases qq with
    | none =>
      simp only [Prod.mk.injEq] at ht
      exact .inl ⟨ht.2.2.symm, rfl⟩
    | some y =>
      obtain ⟨a, r⟩ := y
      simp only [Prod.mk.injEq] at ht
      have h2 := (lineA_len hqq).2
      rw [List.length_drop] at h2
      refine .inr ⟨ht.2.2.symm, r, by rw [ht.1], ?_, ?_⟩
      · rw [← ht.1]; omega
      · rw [← ht.1]; omega)
  rw [ht] at HCUT
  rw [hqq]
  clear h lib h1 hg1 hqq ht
  go_enter Tryd.func52, Tryd.ntmps52
  go_upto_region 2 with (fail)
  rw [HW1.out]
  clear HW1 c0 c1 c2 f2
  refine wp_region_quiet (C := fun wz => Below w1.heap.size w1 wz) (by kernel_rfl) (by kernel_rfl) (Below.refl w1.heap.size w1).drew ?_
  simp only
  repeat
    first
      | go_big_quiet_skip
      | (refine wpQuiet_step (fun K hK => ?_)
         rw [if_pos (by rfl)]
         unfold Oper.quiet
         apply Exists.intro
         refine And.intro (fun wx hWx => ?_) (hK _ ?_)
         · obtain ⟨e0, e1⟩ := HCEL.out wx hWx
           first
             | (go_simp; exact rfl)
             | (go_simp; go_at_call 47; refine (HCUT.out wx (HBB.out wx hWx)).mono ?_; rintro e w' ⟨rfl, n, rfl⟩; exact ⟨rfl, below_drewN hWx n⟩)
         clear hK K
         try simp only [Act.put, List.setIfInBounds_toArray, List.set_cons_zero, List.set_cons_succ])
  refine wpQuiet_nil ?_
  intro w5 hw5
  have HW5 := Lib.hid hw5
  clear hw5
  rcases HCA.out with ⟨rfl, hq⟩ | ⟨rfl, r, hq, hq1, hq2⟩
  · have HE := Lib.hid hq
    have HRF := Lib.hid (refuse_any w5 b s p p (HR1.out.below HW5.out))
    clear hq
    go_wp2_with (go_at_call 71; refine HRF.out.mono ?_; rintro e w6 ⟨rfl, rfl⟩)
    refine ⟨rfl, gb_below HG1.out HW5.out, ?_⟩
    rw [HE.out]
    rfl
  · have HE := Lib.hid (And.intro hq hq1)
    have hla : (⟨t1.toArray⟩ : ByteArray).size = t1.length := strB_size t1
    obtain ⟨e0, e1⟩ := HCEL.out w5 HW5.out
    have f1 : w5.frozen? ⟨b, 1, none⟩ = false := Blk.frozen (HR1.out.below HW5.out) 1
    obtain ⟨al, hal⟩ : ∃ n, t1.length = n := ⟨_, rfl⟩
    rw [hal] at hla hq2 HE
    have HR6 := Lib.hid ((HR1.out.below HW5.out).at_ (p + (al + 1)))
    have HG6 := Lib.hid (gb_set (gb_below HG1.out HW5.out) 1 (.int .i64 ((p + (al + 1) : Nat) : Int)))
    have hwr1 : IntKind.i64.wrap ((al : Int) + 1) = (al : Int) + 1 := by rw [IntKind.wrap_i64]; omega
    have hwr2 : IntKind.i64.wrap ((p : Int) + ((al : Int) + 1)) = ((p + (al + 1) : Nat) : Int) := by have := HS.out; rw [IntKind.wrap_i64]; omega
    generalize hsa : (⟨t1.toArray⟩ : ByteArray) = sa at *
    have HSA : Hid (sa = strB t1) := Lib.hid (by rw [← hsa]; rfl)
    clear hsa hal hq hq1 hq2
    go_wp2
    go_ret
    refine ⟨HG6.out, ?_⟩
    rw [HE.out.1]
    refine ⟨by rw [HSA.out]; rfl, ?_⟩
    rw [HE.out.2]
    exact HR6.out
end Go.Proofs.YtkkolefhfmlhfabDoor
