/- Ascii: the numbers of the next line; of the next lines. -/
import Derived.Test.YtkkolefhfmlhfabDoorAscD
namespace Go.Proofs.YtkkolefhfmlhfabDoor
open Go.RowKit

theorem lineA_drop {s l r : Bs} {p : Nat} (h : lineA (s.drop p) = some (l, r)) : s.drop (s.length - r.length) = r ∧ r.length < s.length ∧ p < s.length ∧ l.length ≤ s.length := by
  obtain ⟨e, _⟩ := lineA_some h
  have h2 := (lineA_len h).2
  rw [List.length_drop] at h2
  have hsu : r <:+ s := by
    have h3 : r <:+ s.drop p := by rw [e]; exact ⟨l ++ [10], by simp⟩
    exact h3.trans (List.drop_suffix p s)
  refine ⟨(List.suffix_iff_eq_drop.1 hsu).symm, by omega, by omega, by omega⟩
theorem lineA_end {s : Bs} {p : Nat} (hp : p ≤ s.length) : s.length - (s.drop p).length = p := by rw [List.length_drop]; omega
/-- What numbers answers. -/
def RowAns (f : Nat → Prop) (w : World) (b : Nat) (s : Bs) (q : Rs (List Nat)) (e : Ending) (w' : World) : Prop := match q with
  | .error k => e = pan ((s.length - k : Nat) : Int) 42
  | .ok (ns, r) => ∃ g l, f l ∧ e = .returned (.slice (some ⟨g, 0, none⟩) ns.length ns.length) ∧ w.heap.size ≤ g ∧ Nums w' g (intsA ns) ∧ Rd w' b s (s.length - r.length) l
set_option maxHeartbeats 4000000 in
set_option maxRecDepth 100000 in
theorem numbers_any (w : World) (B b : Nat) (s : Bs) (p l least most : Nat) (h : Rd w b s p l) (hp : p ≤ s.length) (hs : s.length ≤ 262144) (hmo : most ≤ 100) (hle : least ≤ 100) (lib : LibB B w) (hB : B ≤ b) :
    Calls Tryd.prog 75 #[.pointer (some ⟨b, 0, none⟩), .int .i64 least, .int .i64 most] w fun e w' => w.grownBy w' (some b) ∧ RowAns (· = p) w b s (rowA least most (s.drop p)) e w' := by
  have hlt : b < w.heap.size := Blk.lt h
  have HLN := Lib.hid (line_any w B b s p l h hp hs lib hB)
  have HLB := Lib.hid lib
  obtain ⟨q, hq⟩ : ∃ q, rowA least most (s.drop p) = q := ⟨_, rfl⟩
  rw [hq]
  unfold rowA at hq
  clear h lib
  cases hl : lineA (s.drop p) with
  | none =>
    rw [hl] at hq HLN
    simp only at hq
    have HE : Hid (q = .error (s.drop p).length ∧ s.length - (s.drop p).length = p) := Lib.hid ⟨hq.symm, lineA_end hp⟩
    clear hq hl
    go_enter Tryd.func75, Tryd.ntmps75
    go_wp2_with (go_at_call 52; refine HLN.out.mono ?_; rintro e w1 ⟨hg, he⟩; have he2 : e = pan p 42 := he; subst he2; have HG := Lib.hid hg; clear hg he)
    refine ⟨rfl, HG.out, ?_⟩
    rw [HE.out.1]
    show pan p 42 = pan _ 42
    rw [HE.out.2]
  | some y =>
    obtain ⟨ln, r⟩ := y
    obtain ⟨hd, hr, hp2, hln⟩ := lineA_drop hl
    rw [hl] at hq HLN
    simp only at hq
    have HNO := Lib.hid (fun (wx : World) (hb : w.grownBy wx (some b)) => numbersOf_any wx B ln least most hmo hle (by omega) (HLB.out.on (gb_to hb hB (by omega))) (by have := hb.size; omega))
    cases hn : numbersA least most ln with
    | none =>
      rw [hn] at hq HNO
      simp only at hq
      have HE : Hid (q = .error (s.drop p).length ∧ s.length - (s.drop p).length = p) := Lib.hid ⟨hq.symm, lineA_end hp⟩
      clear hq hl hn hd hr hp2 hln
      go_enter Tryd.func75, Tryd.ntmps75
      go_wp2_with (first
        | (go_at_call 52; refine HLN.out.mono ?_; rintro e w1 ⟨hg, he⟩; obtain ⟨rfl, hrd⟩ := he; have HG := Lib.hid hg; have HRD := Lib.hid hrd; clear hg hrd)
        | (go_at_call 48; refine (HNO.out w1 HG.out).mono ?_; rintro e w2 ⟨hb, he⟩; have he2 : e = .returned (.tuple #[.slice none 0 0, .bool false]) := he; subst he2; have HG2 := Lib.hid (gb_below HG.out hb); have HRD2 := Lib.hid (HRD.out.below hb); clear hb he)
        | (go_at_call 71; refine (refuse_any w2 b s _ p HRD2.out).mono ?_; rintro e w3 ⟨rfl, rfl⟩))
      refine ⟨rfl, HG2.out, ?_⟩
      rw [HE.out.1]
      show pan p 42 = pan _ 42
      rw [HE.out.2]
    | some ns =>
      rw [hn] at hq HNO
      simp only at hq
      have HE : Hid (q = .ok (ns, r)) := Lib.hid hq.symm
      clear hq hl hn hd hr hp2 hln
      go_enter Tryd.func75, Tryd.ntmps75
      go_wp2_with (first
        | (go_at_call 52; refine HLN.out.mono ?_; rintro e w1 ⟨hg, he⟩; obtain ⟨rfl, hrd⟩ := he; have HG := Lib.hid hg; have HRD := Lib.hid hrd; clear hg hrd)
        | (go_at_call 48; refine (HNO.out w1 HG.out).mono ?_; rintro e w2 ⟨hb, he⟩; obtain ⟨g, rfl, hg1, hnu⟩ := he; have HG2 := Lib.hid (gb_below HG.out hb); have HRD2 := Lib.hid (HRD.out.below hb); have HNU := Lib.hid hnu; have HGG : Hid (w.heap.size ≤ g) := Lib.hid (Nat.le_trans HG.out.size hg1); clear hb hg1 hnu))
      go_ret
      refine ⟨HG2.out, ?_⟩
      rw [HE.out]
      exact ⟨g, p, rfl, rfl, HGG.out, HNU.out, HRD2.out⟩
end Go.Proofs.YtkkolefhfmlhfabDoor
