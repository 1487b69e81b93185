/- Ascii: literals, justice. -/
import Derived.Test.YtkkolefhfmlhfabDoorAscI
namespace Go.Proofs.YtkkolefhfmlhfabDoor
open Go.RowKit

set_option maxHeartbeats 4000000 in
set_option maxRecDepth 100000 in
theorem literals_any (w : World) (B b : Nat) (s : Bs) (p l n : Nat) (h : Rd w b s p l) (hp : p ≤ s.length) (hs : s.length ≤ 262144) (hn : n ≤ 100000) (lib : LibB B w) (hB : B ≤ b) :
    Calls Tryd.prog 56 #[.pointer (some ⟨b, 0, none⟩), .int .i64 n] w fun e w' => w.grownBy w' (some b) ∧ RowAns (fun _ => True) w b s (listA 2147483647 n (s.drop p)) e w' := by
  have HL : Hid (Calls Tryd.prog 74 #[.pointer (some ⟨b, 0, none⟩), .int .i64 n, .int .i64 2147483647] w fun e w' => w.grownBy w' (some b) ∧ RowAns (fun _ => True) w b s (listA 2147483647 n (s.drop p)) e w') := Lib.hid (list_any w B b s p l n 2147483647 h hp hs hn (Nat.le_refl _) lib hB)
  obtain ⟨q, hq⟩ : ∃ q, listA 2147483647 n (s.drop p) = q := ⟨_, rfl⟩
  rw [hq] at HL ⊢
  clear h lib hq
  cases q with
  | error k =>
    go_enter Tryd.func56, Tryd.ntmps56
    go_wp2_with (go_at_call 74; refine HL.out.mono ?_; rintro e w1 ⟨hg, he⟩; have he2 : e = pan ((s.length - k : Nat) : Int) 42 := he; subst he2; have HG := Lib.hid hg; clear hg he)
    exact ⟨rfl, HG.out, rfl⟩
  | ok y =>
    obtain ⟨ns, r⟩ := y
    go_enter Tryd.func56, Tryd.ntmps56
    go_wp2_with (go_at_call 74; refine HL.out.mono ?_; rintro e w1 ⟨hg, he⟩; obtain ⟨g, l1, _, rfl, h1, h2, h3⟩ := he; have HG := Lib.hid hg; have H1 := Lib.hid h1; have H2 := Lib.hid h2; have H3 := Lib.hid h3; clear hg h1 h2 h3)
    go_ret
    exact ⟨HG.out, g, l1, trivial, rfl, H1.out, H2.out, H3.out⟩
theorem listA_ok : ∀ {n most : Nat} {r r' : Bs} {ns : List Nat}, listA most n r = .ok (ns, r') → ns.length = n ∧ (∀ x ∈ ns, x ≤ most) ∧ (∃ t, r = t ++ r')
  | 0, most, r, r', ns, h => by
    unfold listA at h
    injection h with h
    injection h with h1 h2
    subst h1 h2
    exact ⟨rfl, fun x hx => by simp at hx, [], rfl⟩
  | n + 1, most, r, r', ns, h => by
    cases hr : rowA 1 1 r with
    | error k => rw [list_err hr] at h; cases h
    | ok y =>
      obtain ⟨xs, r1⟩ := y
      have hr0 : rowA 1 1 (r.drop 0) = .ok (xs, r1) := hr
      obtain ⟨hd, hl, _, h1, h2, _⟩ := rowA_ok (s := r) (p := 0) hr0
      obtain ⟨x, rfl⟩ := one_of h1 h2
      by_cases hx : most < x
      · rw [list_big hr hx] at h; cases h
      · rw [list_ok hr hx] at h
        cases hq : listA most n r1 with
        | error k => rw [hq] at h; cases h
        | ok y =>
          obtain ⟨ys, r2⟩ := y
          rw [hq] at h
          have h3 : ([x] ++ ys, r2) = (ns, r') := by
            have h4 : (Except.ok ([x] ++ ys, r2) : Rs (List Nat)) = .ok (ns, r') := h
            injection h4
          injection h3 with h4 h5
          subst h4 h5
          obtain ⟨e1, e2, t, e3⟩ := listA_ok hq
          refine ⟨by simp [e1], fun z hz => ?_, r.take (r.length - r1.length) ++ t, ?_⟩
          · simp only [List.singleton_append, List.mem_cons] at hz
            rcases hz with rfl | hz
            · omega
            · exact e2 z hz
          · rw [List.append_assoc, ← e3]
            conv => rhs; rhs; rw [← hd]
            exact (List.take_append_drop _ _).symm
/-- The cells of a list of lists. -/
def cellJ (g : Nat) (xs : List Nat) : Value := .slice (some ⟨g, 0, none⟩) xs.length xs.length
def cellsJ (gs : List Nat) (xss : List (List Nat)) : List Value := List.zipWith cellJ gs xss
/-- Lists that lie each in a block of its own, behind block g. -/
structure InnJ (w : World) (g : Nat) (gs : List Nat) (xss : List (List Nat)) : Prop where
  len : gs.length = xss.length
  up : gs.Pairwise (· < ·)
  lt : ∀ g' ∈ gs, g < g' ∧ g' < w.heap.size
  nums : ∀ (i g' : Nat) (xs : List Nat), gs[i]? = some g' → xss[i]? = some xs → Nums w g' (intsA xs)
theorem InnJ.grow {w w1 : World} {b g : Nat} {gs : List Nat} {xss : List (List Nat)} (h : InnJ w g gs xss) (hg : w.grownBy w1 (some b)) (hb : b < g) : InnJ w1 g gs xss :=
  ⟨h.len, h.up, fun g' hg' => ⟨(h.lt g' hg').1, Nat.lt_of_lt_of_le (h.lt g' hg').2 hg.size⟩, fun i g' xs h1 h2 => by
    have hm := h.lt g' (List.mem_of_getElem? h1)
    exact (hg.block g' hm.2 (fun e => by injection e with e; omega)).trans (h.nums i g' xs h1 h2)⟩
theorem InnJ.set_ {w : World} {g : Nat} {gs : List Nat} {xss : List (List Nat)} (h : InnJ w g gs xss) (i : Nat) (v : Value) : InnJ (w.setCell ⟨g, i, none⟩ v) g gs xss :=
  ⟨h.len, h.up, fun g' hg' => ⟨(h.lt g' hg').1, by simpa using (h.lt g' hg').2⟩, fun i g' xs h1 h2 => by
    have hm := h.lt g' (List.mem_of_getElem? h1)
    exact Blk.far (h.nums i g' xs h1 h2) (by show g' ≠ g; omega) _⟩
theorem InnJ.snoc {w : World} {g g' : Nat} {gs : List Nat} {xss : List (List Nat)} {xs : List Nat} (h : InnJ w g gs xss) (hg : g < g') (hup : ∀ x ∈ gs, x < g') (hn : Nums w g' (intsA xs)) : InnJ w g (gs ++ [g']) (xss ++ [xs]) := by
  refine ⟨by simp [h.len], ?_, fun x hx => ?_, fun i x ys h1 h2 => ?_⟩
  · rw [List.pairwise_append]
    exact ⟨h.up, List.pairwise_singleton _ _, fun a ha c hc => by rw [List.mem_singleton.1 hc]; exact hup a ha⟩
  · rcases List.mem_append.1 hx with hx | hx
    · exact h.lt x hx
    · rw [List.mem_singleton.1 hx]; exact ⟨hg, Blk.lt hn⟩
  · by_cases hi : i < gs.length
    · rw [List.getElem?_append_left hi] at h1
      rw [List.getElem?_append_left (by rw [← h.len]; exact hi)] at h2
      exact h.nums i x ys h1 h2
    · rw [List.getElem?_append_right (by omega)] at h1
      rw [List.getElem?_append_right (by rw [← h.len]; omega)] at h2
      rw [h.len] at h1
      have hz : i - xss.length = 0 := by
        have := (List.getElem?_eq_some_iff.1 h1).1
        simp at this
        omega
      rw [hz] at h1 h2
      simp at h1 h2
      subst h1 h2
      exact hn
end Go.Proofs.YtkkolefhfmlhfabDoor
